/- The law ExecDoes: a round. -/
import Derived.Test.YtkdfkhebjhnbmaaExeU
set_option linter.unusedSimpArgs false
set_option linter.unusedVariables false
namespace Go.Proofs.Ytkdfkhebjhnbmaa
open Go.ChangeShapes Go.WideShapes Go.ChangeAt Go.RowKit Go.Base Go.Que Go.Exe

def Kp (b0 : Nat) (w w' : World) : Prop := ∀ o, w.heap[b0]? = some o → w'.heap[b0]? = some o
def TwoX (B x y b0 : Nat) (slots s' : Int) (L L' : List Rn) (c : Int) (w : World) (e : Ending) (w' : World) : Prop := e = .returned (.int .i64 c) ∧ Mid B w' x y b0 slots s' L L' ∧ Below B w w' ∧ Kp b0 w w'
def TwoY (B x y b0 : Nat) (slots s' : Int) (L' : List Rn) (c : Int) (w : World) (e : Ending) (w' : World) : Prop := e = .returned (.int .i64 c) ∧ Bun B w' x y b0 slots s' L' ∧ Below B w w' ∧ Kp b0 w w'
section
variable {B x y b0 : Nat} {w w' : World} {slots s : Int} {L : List Rn}
theorem kp_of (hb : Below w.heap.size w w') : Kp b0 w w' := fun o ho => (hb.block b0 (heap_lt ho)).trans ho
theorem Bun.new (h : Bun B w x y b0 slots s L) (o : Obj) : Bun B (w.alloc o) x y w.heap.size slots s L := by
  have h9 := h.later (below_alloc w o)
  obtain ⟨F, h1, h2, h3, h4, h5, h6, h7⟩ := h
  obtain ⟨A, c, hy, _⟩ := h7.ry
  have hyl := heap_lt hy
  exact ⟨F, h1.later (below_alloc w o), h2, h3, h4, fun hf => by have := h1.2 _ hf; omega, by omega, h7.kept (p := fun _ => False) (Below.movedNew (below_alloc w o)) (fun h => h) (fun _ _ h => h)⟩
theorem start_two (h : Bun B w x y b0 slots s L) (hB : B ≤ w.heap.size) (hb0 : b0 < w.heap.size) {k : Ky} (hk : kyfit k) {u now : Int} (hu : i64 u) (hs : s + 1 < 4611686018427387904) :
    ∃ c s' L', (s' = s ∨ s' = s + 1) ∧ Calls Try.prog 10 #[.pointer (some ⟨x, 0, none⟩), kyV k, .int .i64 u, .int .i64 now] w (TwoX B x y b0 slots s' L L' c w) ∧
      ∀ V, B ≤ V.heap.size → Mid B V x y b0 slots s' L L' → Calls Try.prog 11 #[.pointer (some ⟨y, 0, none⟩), kyV k, .int .i64 u, .int .i64 now] V (TwoY B x y b0 slots s' L' c V) := by
  have hok := h.ok
  by_cases hcan : CanStart slots L k u now
  · refine ⟨0, s + 1, insR ⟨k, u, s + 1⟩ L, .inr rfl, ?_, fun V hBV hV => ?_⟩
    · obtain ⟨F, h1, h2, h3, h4, h5, h6, h7⟩ := h
      refine (h1.start_ok hk hcan.2.1 hcan.1 hu hcan.2.2 hs).mono ?_
      rintro e w' ⟨he, ⟨F', hx, hF⟩, hm⟩
      exact ⟨he, mid_of h1 h2 h3 h4 h5 h6 h7 hB hb0 hx hF hm⟩
    · have hV2 := hV
      obtain ⟨F, h1, h2, h3, h4, h5, h6, h7⟩ := hV
      refine (rstart_ok (num := s + 1) h7.ry hcan.2.2 hok.room hcan.1 hcan.2.1).mono ?_
      rintro e w' ⟨he, hr, hm⟩
      exact ⟨he, bun_of hV2 hBV hr hm⟩
  · obtain ⟨c, hw, _⟩ := why_not hcan
    refine ⟨c, s, L, .inl rfl, ?_, fun V hBV hV => ?_⟩
    · obtain ⟨F, hx⟩ := h.ex
      refine (hx.start_no hk hw).mono ?_
      rintro e w' ⟨he, hb⟩
      exact ⟨he, h.later hb, hb.mono hB, kp_of hb⟩
    · have h9 : Bun B V x y b0 slots s L := hV
      refine (rstart_no h9.ry k (by have h1 := hok.room; have h2 := hok.few; omega) hok.room hw).mono ?_
      rintro e w' ⟨he, hb⟩
      exact ⟨he, h9.later hb, hb.mono hBV, kp_of hb⟩
theorem finish_two (h : Bun B w x y b0 slots s L) (hB : B ≤ w.heap.size) (hb0 : b0 < w.heap.size) {k : Ky} (hk : kyfit k) :
    ∃ c L', Calls Try.prog 12 #[.pointer (some ⟨x, 0, none⟩), kyV k] w (TwoX B x y b0 slots s L L' c w) ∧
      ∀ V, B ≤ V.heap.size → Mid B V x y b0 slots s L L' → Calls Try.prog 13 #[.pointer (some ⟨y, 0, none⟩), kyV k] V (TwoY B x y b0 slots s L' c V) := by
  have hok := h.ok
  by_cases hin : ∃ r ∈ L, r.key = k
  · obtain ⟨r, hr, rfl⟩ := hin
    refine ⟨0, del L r.num, ?_, fun V hBV hV => ?_⟩
    · obtain ⟨F, h1, h2, h3, h4, h5, h6, h7⟩ := h
      refine (h1.finish_hit hr).mono ?_
      rintro e w' ⟨he, ⟨F', hx, hF⟩, hm⟩
      exact ⟨he, mid_of h1 h2 h3 h4 h5 h6 h7 hB hb0 hx hF hm⟩
    · have hV2 := hV
      obtain ⟨F, h1, h2, h3, h4, h5, h6, h7⟩ := hV
      refine (rfinish_hit h7.ry hok hr).mono ?_
      rintro e w' ⟨he, hr, hm⟩
      exact ⟨he, bun_of hV2 hBV hr hm⟩
  · have hno : ∀ r ∈ L, r.key ≠ k := fun r hr e => hin ⟨r, hr, e⟩
    refine ⟨4, L, ?_, fun V hBV hV => ?_⟩
    · obtain ⟨F, hx⟩ := h.ex
      refine (hx.finish_miss hk hno).mono ?_
      rintro e w' ⟨he, hb⟩
      exact ⟨he, h.later hb, hb.mono hB, kp_of hb⟩
    · have h9 : Bun B V x y b0 slots s L := hV
      refine (rfinish_miss h9.ry (by have h1 := hok.room; have h2 := hok.few; omega) hno).mono ?_
      rintro e w' ⟨he, hb⟩
      exact ⟨he, h9.later hb, hb.mono hBV, kp_of hb⟩
theorem rd_cells {w : World} {A : Option Addr} {L : List Rn} (h : Rd w A L) {i : Nat} (hi : i < L.length) {j : ByteArray} {o g u num : Int} (hr : L[i] = ⟨⟨j, o, g⟩, u, num⟩) : ∀ b, A = some ⟨b, 0, none⟩ → w.cell? ⟨b, i * 4, none⟩ = some (.string j) ∧ w.cell? ⟨b, i * 4 + 1, none⟩ = some (.int .i64 o) ∧ w.cell? ⟨b, i * 4 + 2, none⟩ = some (.int .i64 g) ∧ w.cell? ⟨b, i * 4 + 3, none⟩ = some (.int .i64 u) := fun b hb => by
  obtain ⟨g1, e, hc⟩ := h i hi
  rw [hb] at e
  injection e with e; injection e with e
  subst e
  rw [hr] at hc
  exact ⟨(hc 0 (by omega)).trans rfl, (hc 1 (by omega)).trans rfl, (hc 2 (by omega)).trans rfl, (hc 3 (by omega)).trans rfl⟩
/-- What the two Kills leave. -/
def KillX2 (B x y b0 : Nat) (slots s now : Int) (L : List Rn) (w : World) (e : Ending) (w' : World) : Prop :=
  ∃ done rest A c, L = done ++ rest ∧ (∀ r ∈ done, r.until_ ≤ now) ∧ (∀ r ∈ rest, now < r.until_) ∧ e = .returned (.slice A done.length c) ∧ w'.ownsRow w.heap.size 41 4 (.slice A done.length c) done.length (cellsR done) ∧ Mid B w' x y b0 slots s L rest ∧ Below B w w' ∧ Kp b0 w w'
theorem kill_x (h : Bun B w x y b0 slots s L) (hB : B ≤ w.heap.size) (hb0 : b0 < w.heap.size) (now : Int) : Calls Try.prog 15 #[.pointer (some ⟨x, 0, none⟩), .int .i64 now] w (KillX2 B x y b0 slots s now L w) := by
  obtain ⟨F, h1, h2, h3, h4, h5, h6, h7⟩ := h
  refine (kill_any h1 now).mono ?_
  rintro e w' ⟨done, rest, A, c, e1, e2, e3, he, ⟨ho, F', hx, hF, _⟩, hm⟩
  exact ⟨done, rest, A, c, e1, e2, e3, he, ho, mid_of h1 h2 h3 h4 h5 h6 h7 hB hb0 hx hF hm⟩
def KillY2 (B x y b0 : Nat) (slots s : Int) (done rest : List Rn) (A : Option Addr) (w : World) (e : Ending) (w' : World) : Prop :=
  ∃ A2 c2, e = .returned (.slice A2 done.length c2) ∧ Rd w' A2 done ∧ Rd w' A done ∧ Bun B w' x y b0 slots s rest ∧ Below B w w' ∧ Kp b0 w w'
theorem kill_y {done rest : List Rn} {now : Int} {A : Option Addr} {c b : Nat} (h : Mid B w x y b0 slots s (done ++ rest) rest) (hok : Ok slots s (done ++ rest)) (hB : B ≤ w.heap.size) (h1 : ∀ r ∈ done, r.until_ ≤ now) (h2 : ∀ r ∈ rest, now < r.until_) (ho : w.ownsRow b 41 4 (.slice A done.length c) done.length (cellsR done)) :
    Calls Try.prog 16 #[.pointer (some ⟨y, 0, none⟩), .int .i64 now] w (KillY2 B x y b0 slots s done rest A w) := by
  have hM := h
  obtain ⟨F, _, _, _, _, _, _, h7⟩ := h
  have hry := h7.ry
  refine (rkill_any hry (by have h1 := hok.room; have h2 := hok.few; omega) hok.asc now).mono ?_
  rintro e w' ⟨d2, r2, A2, c2, e1, e2, e3, he, hrd, hr, hm⟩
  obtain ⟨rfl, rfl⟩ := split_uniq e1 h1 h2 e2 e3
  obtain ⟨A3, c3, hy, _⟩ := hry
  refine ⟨A2, c2, he, hrd, rd_of (own_moved ho hm (fun k hk e => own_ne ho hy (by decide) (by rw [hk, e]))) rfl, bun_of hM hB hr hm⟩
end
set_option maxHeartbeats 40000000 in
set_option maxRecDepth 20000 in
theorem law_does_ok {slots : Int} (A : Option Addr) (l : List Xop) (c : Nat) (w : World) (hl : Elts 6 opC w A l) (hok : ∀ o ∈ l, o.Ok) (hm : l.length * 56 ≤ 140737488351232) (hs1 : 1 ≤ slots) (hs2 : slots ≤ 65536) :
    Calls Try.prog 3 #[.int .i64 slots, .slice A l.length c] w fun e w' => e = .returned (.bool true) ∧ Below w.heap.size w w' := by
  have HLi := Lib.hid (fun V => xlives V)
  have HXn := Lib.hid (xnew_ok hs1 hs2 w)
  have HYn := Lib.hid (fun V => rnew_ok hs1 hs2 V)
  obtain ⟨n, hn⟩ : ∃ n, n = l.length := ⟨_, rfl⟩
  rw [← hn] at hm ⊢
  have HL := Lib.hid hl
  have HLn := Lib.hid hn
  have HOk := Lib.hid hok
  have hm0 : (n : Int) ≤ 281474976710656 := by omega
  clear hl hn hok hm
  go_enter Try.func3, Try.ntmps3
  go_wp2_with (first
    | (go_at_call 7; refine Calls.mono (by with_reducible exact HXn.out) ?_; rintro e w1 ⟨x, F, rfl, hx, hF, hb⟩; have HX1 := Lib.hid hx; have HF1 := Lib.hid hF; have HB1 := Lib.hid hb; clear hx hF hb)
    | (go_at_call 8; refine Calls.mono (by with_reducible exact HYn.out _) ?_; rintro e w2 ⟨rfl, hr, hb⟩; have HBu : Hid (Bun w.heap.size w2 x w1.heap.size w1.heap.size.succ slots 0 []) := Lib.hid ⟨F, HX1.out.later hb, HF1.out, HB1.out.size, (fun h => by have := HX1.out.2 _ h; omega), (fun h => by have := HX1.out.2 _ h; omega), by omega, hr.weak (fun k _ h => h.elim)⟩; have HB2 := Lib.hid (HB1.out.trans (hb.mono HB1.out.size)); obtain ⟨y, hy⟩ : ∃ y, y = w1.heap.size := ⟨_, rfl⟩; rw [← hy] at HBu ⊢; clear hr hb hy)
    | (go_at_call 9; refine Calls.mono (by with_reducible exact HLi.out _) ?_; rintro e w3 ⟨rfl, hb⟩; have HBu3 := Lib.hid (HBu.out.later hb); have HB3 := Lib.hid (HB2.out.trans (hb.mono HB2.out.size)); clear hb HBu HX1 HF1))
  go_loopw [9] (fun iv wr => ∃ (k s b0 : Nat) (L : List Rn), k ≤ n ∧ s ≤ k ∧ iv = .int .i64 (k : Int) ∧ Hid (Bun w.heap.size wr x y b0 slots (s : Int) L) ∧ Hid (Below w.heap.size w wr)) (fun iv _ => n - (intOf iv).toNat)
  case atStart => exact ⟨0, 0, _, [], by omega, by omega, rfl, HBu3, HB3⟩
  case round =>
    clear HBu3 HB3
    obtain ⟨k, s, bb, L, hkn, hsk, rfl, HBu, HB⟩ := hrel
    have hkz : (0 : Int) ≤ (k : Int) := by omega
    by_cases hk1 : k < n
    · have hk1' : (k : Int) < (n : Int) := by omega
      have hh : k < l.length := by rw [← HLn.out]; exact hk1
      obtain ⟨g, o, hA, hc⟩ := HL.out k hh
      have hkok := HOk.out l[k] (List.getElem_mem hh)
      obtain ⟨op, hop⟩ : ∃ a, a = l[k] := ⟨_, rfl⟩
      rw [← hop] at hc hkok
      obtain ⟨kd, key, u, now⟩ := op
      have HKf : Hid (kyfit key) := Lib.hid hkok.1
      have HUf : Hid (i64 u) := Lib.hid hkok.2.1
      have c0 := cell_later HB.out (hc 0 _ rfl)
      have c1 := cell_later HB.out (hc 1 _ rfl)
      have c2 := cell_later HB.out (hc 2 _ rfl)
      have c3 := cell_later HB.out (hc 3 _ rfl)
      have c4 := cell_later HB.out (hc 4 _ rfl)
      have c5 := cell_later HB.out (hc 5 _ rfl)
      simp only [Nat.add_zero] at c0
      clear hop hkok hc hh
      subst hA
      obtain ⟨W1, hW1⟩ : ∃ W1, W1 = wr.alloc (.cells #[.int .i64 kd, .string key.job, .int .i64 key.occ, .int .i64 key.host, .int .i64 u, .int .i64 now] 34) := ⟨_, rfl⟩
      have HBu1 : Hid (Bun w.heap.size W1 x y wr.heap.size slots (s : Int) L) := Lib.hid (by rw [hW1]; exact HBu.out.new _)
      have HB1w : Hid (Below w.heap.size w W1) := Lib.hid (by rw [hW1]; exact HB.out.alloc HB.out.size _)
      have HK1 : Hid (W1.heap[wr.heap.size]? = some (.cells #[.int .i64 kd, .string key.job, .int .i64 key.occ, .int .i64 key.host, .int .i64 u, .int .i64 now] 34 (0, 0))) := Lib.hid (by rw [hW1]; exact heap_new _ _)
      go_upto_block 2 with fail
      rw [← hW1]
      obtain ⟨b0, hb0⟩ : ∃ b0, b0 = wr.heap.size := ⟨_, rfl⟩
      rw [← hb0] at HBu1 HK1 ⊢
      clear hW1 hb0 c0 c1 c2 c3 c4 c5 HBu HB
      obtain ⟨j, oc, ho⟩ := key
      go_cut [11] from 57 to 97 (fun okv wx => ∃ (s' : Nat) (L' : List Rn), okv = .bool true ∧ s' ≤ k + 1 ∧ Hid (Bun w.heap.size wx x y b0 slots (s' : Int) L') ∧ Hid (Below w.heap.size w wx) ∧ Hid (wx.heap[b0]? = some (.cells #[.int .i64 kd, .string j, .int .i64 oc, .int .i64 ho, .int .i64 u, .int .i64 now] 34 (0, 0))))
      case first =>
        have hBW := HB1w.out.size
        have hb0l := heap_lt HK1.out
        obtain ⟨q1, _⟩ := cells_of_heap HK1.out
        have d1 := q1 1
        have d2 := q1 2
        have d3 := q1 3
        have d4 := q1 4
        have d5 := q1 5
        clear q1
        have HCk : Hid (∀ V, Kp b0 W1 V → V.cell? ⟨b0, 1, none⟩ = some (.string j) ∧ V.cell? ⟨b0, 2, none⟩ = some (.int .i64 oc) ∧ V.cell? ⟨b0, 3, none⟩ = some (.int .i64 ho) ∧ V.cell? ⟨b0, 4, none⟩ = some (.int .i64 u) ∧ V.cell? ⟨b0, 5, none⟩ = some (.int .i64 now)) := Lib.hid (fun V hV => by
          have h := hV _ HK1.out
          exact ⟨cell_of_row _ _ 1 _ _ _ h, cell_of_row _ _ 2 _ _ _ h, cell_of_row _ _ 3 _ _ _ h, cell_of_row _ _ 4 _ _ _ h, cell_of_row _ _ 5 _ _ _ h⟩)
        have HBd : Hid (Bun w.heap.size W1.drew x y b0 slots (s : Int) L) := Lib.hid (HBu1.out.later (Below.refl _ _).drew)
        by_cases hd1 : kd = 1
        · subst hd1
          as_aux_lemma =>
            obtain ⟨c1, s1, L1, hs1', hX, hY⟩ := start_two (now := now) HBd.out hBW hb0l HKf.out HUf.out (show (s : Int) + 1 < _ by omega)
            obtain ⟨s', hs', hsk'⟩ : ∃ s' : Nat, (s' : Int) = s1 ∧ s' ≤ k + 1 := by
              rcases hs1' with rfl | rfl
              · exact ⟨s, rfl, by omega⟩
              · exact ⟨s + 1, by omega, by omega⟩
            subst hs'
            have HXs := Lib.hid hX
            have HYs := Lib.hid hY
            clear hX hY hs1'
            go_wp2
            refine wp_region_held_drew (S := (fun V => V.cell? ⟨b0, 1, none⟩ = some (.string j) ∧ V.cell? ⟨b0, 2, none⟩ = some (.int .i64 oc) ∧ V.cell? ⟨b0, 3, none⟩ = some (.int .i64 ho) ∧ V.cell? ⟨b0, 4, none⟩ = some (.int .i64 u) ∧ V.cell? ⟨b0, 5, none⟩ = some (.int .i64 now))) (by kernel_rfl) ⟨d1, d2, d3, d4, d5⟩ (fun hHeld => ?_)
            refine wpAnyH_take (i := 0) (v := ?vv1) rfl (by kernel_rfl) (by kernel_rfl) (by kernel_rfl) (fun _ _ _ h => h) (Or.inl ⟨by rfl, ?hy1⟩) hHeld ?rr1
            case hy1 => (intro w' hSw; obtain ⟨g1, g2, g3, g4, g5⟩ := hSw; go_simp; try with_reducible rfl)
            try simp only [Act.put, List.setIfInBounds_toArray, List.set_cons_zero, List.set_cons_succ, List.getElem_toArray, List.getElem_cons_succ, List.getElem_cons_zero]
            refine wpAnyH_take (i := 1) (v := ?vv2) rfl (by kernel_rfl) (by kernel_rfl) (by kernel_rfl) (fun _ _ _ h => h) (Or.inl ⟨by rfl, ?hy2⟩) hHeld ?rr2
            case hy2 => (intro w' hSw; obtain ⟨g1, g2, g3, g4, g5⟩ := hSw; go_simp; try with_reducible rfl)
            try simp only [Act.put, List.setIfInBounds_toArray, List.set_cons_zero, List.set_cons_succ, List.getElem_toArray, List.getElem_cons_succ, List.getElem_cons_zero]
            refine wpAnyH_take (i := 2) (v := ?vv3) rfl (by kernel_rfl) (by kernel_rfl) (by kernel_rfl) (fun _ _ _ h => h) (Or.inl ⟨by rfl, ?hy3⟩) hHeld ?rr3
            case hy3 => (intro w' hSw; obtain ⟨g1, g2, g3, g4, g5⟩ := hSw; go_simp; try with_reducible rfl)
            try simp only [Act.put, List.setIfInBounds_toArray, List.set_cons_zero, List.set_cons_succ, List.getElem_toArray, List.getElem_cons_succ, List.getElem_cons_zero]
            refine wpAnyH_take (i := 3) (v := ?vv4) rfl (by kernel_rfl) (by kernel_rfl) (by kernel_rfl) (fun _ _ _ h => h) (Or.inl ⟨by rfl, ?hy4⟩) hHeld ?rr4
            case hy4 => (intro w' hSw; obtain ⟨g1, g2, g3, g4, g5⟩ := hSw; go_simp; try with_reducible rfl)
            try simp only [Act.put, List.setIfInBounds_toArray, List.set_cons_zero, List.set_cons_succ, List.getElem_toArray, List.getElem_cons_succ, List.getElem_cons_zero]
            refine wpAnyH_take (i := 4) (v := ?vv5) rfl (by kernel_rfl) (by kernel_rfl) (by kernel_rfl) (fun _ _ _ h => h) (Or.inl ⟨by rfl, ?hy5⟩) hHeld ?rr5
            case hy5 => (intro w' hSw; obtain ⟨g1, g2, g3, g4, g5⟩ := hSw; go_simp; try with_reducible rfl)
            try simp only [Act.put, List.setIfInBounds_toArray, List.set_cons_zero, List.set_cons_succ, List.getElem_toArray, List.getElem_cons_succ, List.getElem_cons_zero]
            refine wpAnyH_take (i := 5) (v := ?vv6) rfl (by kernel_rfl) (by kernel_rfl) (by kernel_rfl) (fun _ _ _ h => h) (Or.inl ⟨by rfl, ?hy6⟩) hHeld ?rr6
            case hy6 => (intro w' hSw; obtain ⟨g1, g2, g3, g4, g5⟩ := hSw; go_simp; try with_reducible rfl)
            try simp only [Act.put, List.setIfInBounds_toArray, List.set_cons_zero, List.set_cons_succ, List.getElem_toArray, List.getElem_cons_succ, List.getElem_cons_zero]
            refine wpAnyH_take (i := 6) (v := ?vv7) rfl (by kernel_rfl) (by kernel_rfl) (by kernel_rfl) (fun _ _ _ h => h) (Or.inl ⟨by rfl, ?hy7⟩) hHeld ?rr7
            case hy7 => (intro w' hSw; obtain ⟨g1, g2, g3, g4, g5⟩ := hSw; go_simp; try with_reducible rfl)
            try simp only [Act.put, List.setIfInBounds_toArray, List.set_cons_zero, List.set_cons_succ, List.getElem_toArray, List.getElem_cons_succ, List.getElem_cons_zero]
            refine wpAnyH_take (i := 8) (v := ?vv8) rfl (by kernel_rfl) (by kernel_rfl) (by kernel_rfl) (fun _ _ _ h => h) (Or.inl ⟨by rfl, ?hy8⟩) hHeld ?rr8
            case hy8 => (intro w' hSw; obtain ⟨g1, g2, g3, g4, g5⟩ := hSw; go_simp; try with_reducible rfl)
            try simp only [Act.put, List.setIfInBounds_toArray, List.set_cons_zero, List.set_cons_succ, List.getElem_toArray, List.getElem_cons_succ, List.getElem_cons_zero]
            refine wpAnyH_take (i := 9) (v := ?vv9) rfl (by kernel_rfl) (by kernel_rfl) (by kernel_rfl) (fun _ _ _ h => h) (Or.inl ⟨by rfl, ?hy9⟩) hHeld ?rr9
            case hy9 => (intro w' hSw; obtain ⟨g1, g2, g3, g4, g5⟩ := hSw; go_simp; try with_reducible rfl)
            try simp only [Act.put, List.setIfInBounds_toArray, List.set_cons_zero, List.set_cons_succ, List.getElem_toArray, List.getElem_cons_succ, List.getElem_cons_zero]
            refine wpAnyH_take (i := 10) (v := ?vv10) rfl (by kernel_rfl) (by kernel_rfl) (by kernel_rfl) (fun _ _ _ h => h) (Or.inl ⟨by rfl, ?hy10⟩) hHeld ?rr10
            case hy10 => (intro w' hSw; obtain ⟨g1, g2, g3, g4, g5⟩ := hSw; go_simp; try with_reducible rfl)
            try simp only [Act.put, List.setIfInBounds_toArray, List.set_cons_zero, List.set_cons_succ, List.getElem_toArray, List.getElem_cons_succ, List.getElem_cons_zero]
            refine wpAnyH_take (i := 11) (v := ?vv11) rfl (by kernel_rfl) (by kernel_rfl) (by kernel_rfl) (fun _ _ _ h => h) (Or.inl ⟨by rfl, ?hy11⟩) hHeld ?rr11
            case hy11 => (intro w' hSw; obtain ⟨g1, g2, g3, g4, g5⟩ := hSw; go_simp; try with_reducible rfl)
            try simp only [Act.put, List.setIfInBounds_toArray, List.set_cons_zero, List.set_cons_succ, List.getElem_toArray, List.getElem_cons_succ, List.getElem_cons_zero]
            refine wpAnyH_take (i := 12) (v := ?vv12) rfl (by kernel_rfl) (by kernel_rfl) (by kernel_rfl) (fun _ _ _ h => h) (Or.inl ⟨by rfl, ?hy12⟩) hHeld ?rr12
            case hy12 => (intro w' hSw; obtain ⟨g1, g2, g3, g4, g5⟩ := hSw; go_simp; try with_reducible rfl)
            try simp only [Act.put, List.setIfInBounds_toArray, List.set_cons_zero, List.set_cons_succ, List.getElem_toArray, List.getElem_cons_succ, List.getElem_cons_zero]
            refine wpAnyH_take (i := 13) (v := ?vv13) rfl (by kernel_rfl) (by kernel_rfl) (by kernel_rfl) (fun _ _ _ h => h) (Or.inl ⟨by rfl, ?hy13⟩) hHeld ?rr13
            case hy13 => (intro w' hSw; obtain ⟨g1, g2, g3, g4, g5⟩ := hSw; go_simp; try with_reducible rfl)
            try simp only [Act.put, List.setIfInBounds_toArray, List.set_cons_zero, List.set_cons_succ, List.getElem_toArray, List.getElem_cons_succ, List.getElem_cons_zero]
            refine wpAnyH_take (i := 14) (v := ?vv14) rfl (by kernel_rfl) (by kernel_rfl) (by kernel_rfl) (fun _ _ _ h => h) (Or.inl ⟨by rfl, ?hy14⟩) hHeld ?rr14
            case hy14 => (intro w' hSw; obtain ⟨g1, g2, g3, g4, g5⟩ := hSw; go_simp; try with_reducible rfl)
            try simp only [Act.put, List.setIfInBounds_toArray, List.set_cons_zero, List.set_cons_succ, List.getElem_toArray, List.getElem_cons_succ, List.getElem_cons_zero]
            refine wpAnyH_ready (rs := [7]) (by kernel_rfl) (by simp) ?_
            refine AllReadyH.cons rfl (fun K hK => ?_) AllReadyH.nil
            try rw [if_pos (by rfl)]
            go_simp
            go_at_call 10
            refine Calls.mono (by with_reducible exact HXs.out) ?_
            rintro e5 w5 ⟨rfl, hm5, hb5, hk5⟩
            have HM5 := Lib.hid hm5
            have HKp5 : Hid (Kp b0 W1 w5) := Lib.hid (fun o ho => hk5 o ho)
            have HB5 : Hid (Below w.heap.size w w5) := Lib.hid (HB1w.out.trans ((Below.refl _ W1).drew.trans hb5))
            clear hm5 hb5 hk5
            go_wp2_with fail
            refine hK.out _ _ (HCk.out _ HKp5.out) (fun hHeld2 => ?_)
            clear hK K hHeld
            have hHeld := hHeld2
            clear hHeld2
            try simp only [Act.put, List.setIfInBounds_toArray, List.set_cons_zero, List.set_cons_succ, List.getElem_toArray, List.getElem_cons_succ, List.getElem_cons_zero]
            refine wpAnyH_ready (rs := [15]) (by kernel_rfl) (by simp) ?_
            refine AllReadyH.cons rfl (fun K hK => ?_) AllReadyH.nil
            try rw [if_pos (by rfl)]
            go_simp
            go_at_call 11
            refine Calls.mono (by with_reducible exact HYs.out _ HB5.out.size HM5.out) ?_
            rintro e6 w6 ⟨rfl, hu6, hb6, hk6⟩
            have HB6u := Lib.hid hu6
            have HKp6 : Hid (Kp b0 W1 w6) := Lib.hid (fun o ho => hk6 o (HKp5.out o ho))
            have HB6 : Hid (Below w.heap.size w w6) := Lib.hid (HB5.out.trans hb6)
            have HK6 := Lib.hid (HKp6.out _ HK1.out)
            clear hu6 hb6 hk6
            go_wp2_with fail
            refine hK.out _ _ (HCk.out _ HKp6.out) (fun hHeld2 => ?_)
            clear hK K hHeld
            have hHeld := hHeld2
            clear hHeld2
            try simp only [Act.put, List.setIfInBounds_toArray, List.set_cons_zero, List.set_cons_succ, List.getElem_toArray, List.getElem_cons_succ, List.getElem_cons_zero]
            refine wpAnyH_take (i := 16) (v := ?vv15) rfl (by kernel_rfl) (by kernel_rfl) (by kernel_rfl) (fun _ _ _ h => h) (Or.inl ⟨by rfl, ?hy15⟩) hHeld ?rr15
            case hy15 => (intro w' hSw; obtain ⟨g1, g2, g3, g4, g5⟩ := hSw; go_simp; try with_reducible rfl)
            try simp only [Act.put, List.setIfInBounds_toArray, List.set_cons_zero, List.set_cons_succ, List.getElem_toArray, List.getElem_cons_succ, List.getElem_cons_zero]
            refine wpAnyH_take (i := 17) (v := ?vv16) rfl (by kernel_rfl) (by kernel_rfl) (by kernel_rfl) (fun _ _ _ h => h) (Or.inl ⟨by rfl, ?hy16⟩) hHeld ?rr16
            case hy16 => (intro w' hSw; obtain ⟨g1, g2, g3, g4, g5⟩ := hSw; go_simp; try with_reducible rfl)
            try simp only [Act.put, List.setIfInBounds_toArray, List.set_cons_zero, List.set_cons_succ, List.getElem_toArray, List.getElem_cons_succ, List.getElem_cons_zero]
            refine wpAnyH_done (by kernel_rfl) ?_ _
            clear hHeld
            go_wp2
            go_meet
            exact ⟨s', L1, rfl, hsk', HB6u, HB6, HK6⟩
        by_cases hd2 : kd = 2
        · subst hd2
          as_aux_lemma =>
            obtain ⟨c1, L1, hX, hY⟩ := finish_two HBd.out hBW hb0l HKf.out
            have HXs := Lib.hid hX
            have HYs := Lib.hid hY
            clear hX hY
            go_wp2
            refine wp_region_held_drew (S := (fun V => V.cell? ⟨b0, 1, none⟩ = some (.string j) ∧ V.cell? ⟨b0, 2, none⟩ = some (.int .i64 oc) ∧ V.cell? ⟨b0, 3, none⟩ = some (.int .i64 ho) ∧ V.cell? ⟨b0, 4, none⟩ = some (.int .i64 u) ∧ V.cell? ⟨b0, 5, none⟩ = some (.int .i64 now))) (by kernel_rfl) ⟨d1, d2, d3, d4, d5⟩ (fun hHeld => ?_)
            refine wpAnyH_take (i := 0) (v := ?vv17) rfl (by kernel_rfl) (by kernel_rfl) (by kernel_rfl) (fun _ _ _ h => h) (Or.inl ⟨by rfl, ?hy17⟩) hHeld ?rr17
            case hy17 => (intro w' hSw; obtain ⟨g1, g2, g3, g4, g5⟩ := hSw; go_simp; try with_reducible rfl)
            try simp only [Act.put, List.setIfInBounds_toArray, List.set_cons_zero, List.set_cons_succ, List.getElem_toArray, List.getElem_cons_succ, List.getElem_cons_zero]
            refine wpAnyH_take (i := 1) (v := ?vv18) rfl (by kernel_rfl) (by kernel_rfl) (by kernel_rfl) (fun _ _ _ h => h) (Or.inl ⟨by rfl, ?hy18⟩) hHeld ?rr18
            case hy18 => (intro w' hSw; obtain ⟨g1, g2, g3, g4, g5⟩ := hSw; go_simp; try with_reducible rfl)
            try simp only [Act.put, List.setIfInBounds_toArray, List.set_cons_zero, List.set_cons_succ, List.getElem_toArray, List.getElem_cons_succ, List.getElem_cons_zero]
            refine wpAnyH_take (i := 2) (v := ?vv19) rfl (by kernel_rfl) (by kernel_rfl) (by kernel_rfl) (fun _ _ _ h => h) (Or.inl ⟨by rfl, ?hy19⟩) hHeld ?rr19
            case hy19 => (intro w' hSw; obtain ⟨g1, g2, g3, g4, g5⟩ := hSw; go_simp; try with_reducible rfl)
            try simp only [Act.put, List.setIfInBounds_toArray, List.set_cons_zero, List.set_cons_succ, List.getElem_toArray, List.getElem_cons_succ, List.getElem_cons_zero]
            refine wpAnyH_take (i := 4) (v := ?vv20) rfl (by kernel_rfl) (by kernel_rfl) (by kernel_rfl) (fun _ _ _ h => h) (Or.inl ⟨by rfl, ?hy20⟩) hHeld ?rr20
            case hy20 => (intro w' hSw; obtain ⟨g1, g2, g3, g4, g5⟩ := hSw; go_simp; try with_reducible rfl)
            try simp only [Act.put, List.setIfInBounds_toArray, List.set_cons_zero, List.set_cons_succ, List.getElem_toArray, List.getElem_cons_succ, List.getElem_cons_zero]
            refine wpAnyH_take (i := 5) (v := ?vv21) rfl (by kernel_rfl) (by kernel_rfl) (by kernel_rfl) (fun _ _ _ h => h) (Or.inl ⟨by rfl, ?hy21⟩) hHeld ?rr21
            case hy21 => (intro w' hSw; obtain ⟨g1, g2, g3, g4, g5⟩ := hSw; go_simp; try with_reducible rfl)
            try simp only [Act.put, List.setIfInBounds_toArray, List.set_cons_zero, List.set_cons_succ, List.getElem_toArray, List.getElem_cons_succ, List.getElem_cons_zero]
            refine wpAnyH_take (i := 6) (v := ?vv22) rfl (by kernel_rfl) (by kernel_rfl) (by kernel_rfl) (fun _ _ _ h => h) (Or.inl ⟨by rfl, ?hy22⟩) hHeld ?rr22
            case hy22 => (intro w' hSw; obtain ⟨g1, g2, g3, g4, g5⟩ := hSw; go_simp; try with_reducible rfl)
            try simp only [Act.put, List.setIfInBounds_toArray, List.set_cons_zero, List.set_cons_succ, List.getElem_toArray, List.getElem_cons_succ, List.getElem_cons_zero]
            refine wpAnyH_ready (rs := [3]) (by kernel_rfl) (by simp) ?_
            refine AllReadyH.cons rfl (fun K hK => ?_) AllReadyH.nil
            try rw [if_pos (by rfl)]
            go_simp
            go_at_call 12
            refine Calls.mono (by with_reducible exact HXs.out) ?_
            rintro e5 w5 ⟨rfl, hm5, hb5, hk5⟩
            have HM5 := Lib.hid hm5
            have HKp5 : Hid (Kp b0 W1 w5) := Lib.hid (fun o ho => hk5 o ho)
            have HB5 : Hid (Below w.heap.size w w5) := Lib.hid (HB1w.out.trans ((Below.refl _ W1).drew.trans hb5))
            clear hm5 hb5 hk5
            go_wp2_with fail
            refine hK.out _ _ (HCk.out _ HKp5.out) (fun hHeld2 => ?_)
            clear hK K hHeld
            have hHeld := hHeld2
            clear hHeld2
            try simp only [Act.put, List.setIfInBounds_toArray, List.set_cons_zero, List.set_cons_succ, List.getElem_toArray, List.getElem_cons_succ, List.getElem_cons_zero]
            refine wpAnyH_ready (rs := [7]) (by kernel_rfl) (by simp) ?_
            refine AllReadyH.cons rfl (fun K hK => ?_) AllReadyH.nil
            try rw [if_pos (by rfl)]
            go_simp
            go_at_call 13
            refine Calls.mono (by with_reducible exact HYs.out _ HB5.out.size HM5.out) ?_
            rintro e6 w6 ⟨rfl, hu6, hb6, hk6⟩
            have HB6u := Lib.hid hu6
            have HKp6 : Hid (Kp b0 W1 w6) := Lib.hid (fun o ho => hk6 o (HKp5.out o ho))
            have HB6 : Hid (Below w.heap.size w w6) := Lib.hid (HB5.out.trans hb6)
            have HK6 := Lib.hid (HKp6.out _ HK1.out)
            clear hu6 hb6 hk6
            go_wp2_with fail
            refine hK.out _ _ (HCk.out _ HKp6.out) (fun hHeld2 => ?_)
            clear hK K hHeld
            have hHeld := hHeld2
            clear hHeld2
            try simp only [Act.put, List.setIfInBounds_toArray, List.set_cons_zero, List.set_cons_succ, List.getElem_toArray, List.getElem_cons_succ, List.getElem_cons_zero]
            refine wpAnyH_take (i := 8) (v := ?vv23) rfl (by kernel_rfl) (by kernel_rfl) (by kernel_rfl) (fun _ _ _ h => h) (Or.inl ⟨by rfl, ?hy23⟩) hHeld ?rr23
            case hy23 => (intro w' hSw; obtain ⟨g1, g2, g3, g4, g5⟩ := hSw; go_simp; try with_reducible rfl)
            try simp only [Act.put, List.setIfInBounds_toArray, List.set_cons_zero, List.set_cons_succ, List.getElem_toArray, List.getElem_cons_succ, List.getElem_cons_zero]
            refine wpAnyH_take (i := 9) (v := ?vv24) rfl (by kernel_rfl) (by kernel_rfl) (by kernel_rfl) (fun _ _ _ h => h) (Or.inl ⟨by rfl, ?hy24⟩) hHeld ?rr24
            case hy24 => (intro w' hSw; obtain ⟨g1, g2, g3, g4, g5⟩ := hSw; go_simp; try with_reducible rfl)
            try simp only [Act.put, List.setIfInBounds_toArray, List.set_cons_zero, List.set_cons_succ, List.getElem_toArray, List.getElem_cons_succ, List.getElem_cons_zero]
            refine wpAnyH_done (by kernel_rfl) ?_ _
            clear hHeld
            go_wp2
            go_meet
            exact ⟨s, L1, rfl, by omega, HB6u, HB6, HK6⟩
        by_cases hd3 : kd = 3
        · subst hd3
          as_aux_lemma =>
            have HXs := Lib.hid (kill_x HBd.out hBW hb0l now)
            have HOkL := Lib.hid HBd.out.ok
            go_wp2
            refine wp_region_held_drew (S := (fun V => V.cell? ⟨b0, 1, none⟩ = some (.string j) ∧ V.cell? ⟨b0, 2, none⟩ = some (.int .i64 oc) ∧ V.cell? ⟨b0, 3, none⟩ = some (.int .i64 ho) ∧ V.cell? ⟨b0, 4, none⟩ = some (.int .i64 u) ∧ V.cell? ⟨b0, 5, none⟩ = some (.int .i64 now))) (by kernel_rfl) ⟨d1, d2, d3, d4, d5⟩ (fun hHeld => ?_)
            refine wpAnyH_take (i := 0) (v := ?vv25) rfl (by kernel_rfl) (by kernel_rfl) (by kernel_rfl) (fun _ _ _ h => h) (Or.inl ⟨by rfl, ?hy25⟩) hHeld ?rr25
            case hy25 => (intro w' hSw; obtain ⟨g1, g2, g3, g4, g5⟩ := hSw; go_simp; try with_reducible rfl)
            try simp only [Act.put, List.setIfInBounds_toArray, List.set_cons_zero, List.set_cons_succ, List.getElem_toArray, List.getElem_cons_succ, List.getElem_cons_zero]
            refine wpAnyH_take (i := 1) (v := ?vv26) rfl (by kernel_rfl) (by kernel_rfl) (by kernel_rfl) (fun _ _ _ h => h) (Or.inl ⟨by rfl, ?hy26⟩) hHeld ?rr26
            case hy26 => (intro w' hSw; obtain ⟨g1, g2, g3, g4, g5⟩ := hSw; go_simp; try with_reducible rfl)
            try simp only [Act.put, List.setIfInBounds_toArray, List.set_cons_zero, List.set_cons_succ, List.getElem_toArray, List.getElem_cons_succ, List.getElem_cons_zero]
            refine wpAnyH_take (i := 2) (v := ?vv27) rfl (by kernel_rfl) (by kernel_rfl) (by kernel_rfl) (fun _ _ _ h => h) (Or.inl ⟨by rfl, ?hy27⟩) hHeld ?rr27
            case hy27 => (intro w' hSw; obtain ⟨g1, g2, g3, g4, g5⟩ := hSw; go_simp; try with_reducible rfl)
            try simp only [Act.put, List.setIfInBounds_toArray, List.set_cons_zero, List.set_cons_succ, List.getElem_toArray, List.getElem_cons_succ, List.getElem_cons_zero]
            refine wpAnyH_take (i := 4) (v := ?vv28) rfl (by kernel_rfl) (by kernel_rfl) (by kernel_rfl) (fun _ _ _ h => h) (Or.inl ⟨by rfl, ?hy28⟩) hHeld ?rr28
            case hy28 => (intro w' hSw; obtain ⟨g1, g2, g3, g4, g5⟩ := hSw; go_simp; try with_reducible rfl)
            try simp only [Act.put, List.setIfInBounds_toArray, List.set_cons_zero, List.set_cons_succ, List.getElem_toArray, List.getElem_cons_succ, List.getElem_cons_zero]
            refine wpAnyH_take (i := 5) (v := ?vv29) rfl (by kernel_rfl) (by kernel_rfl) (by kernel_rfl) (fun _ _ _ h => h) (Or.inl ⟨by rfl, ?hy29⟩) hHeld ?rr29
            case hy29 => (intro w' hSw; obtain ⟨g1, g2, g3, g4, g5⟩ := hSw; go_simp; try with_reducible rfl)
            try simp only [Act.put, List.setIfInBounds_toArray, List.set_cons_zero, List.set_cons_succ, List.getElem_toArray, List.getElem_cons_succ, List.getElem_cons_zero]
            refine wpAnyH_take (i := 6) (v := ?vv30) rfl (by kernel_rfl) (by kernel_rfl) (by kernel_rfl) (fun _ _ _ h => h) (Or.inl ⟨by rfl, ?hy30⟩) hHeld ?rr30
            case hy30 => (intro w' hSw; obtain ⟨g1, g2, g3, g4, g5⟩ := hSw; go_simp; try with_reducible rfl)
            try simp only [Act.put, List.setIfInBounds_toArray, List.set_cons_zero, List.set_cons_succ, List.getElem_toArray, List.getElem_cons_succ, List.getElem_cons_zero]
            refine wpAnyH_ready (rs := [3]) (by kernel_rfl) (by simp) ?_
            refine AllReadyH.cons rfl (fun K hK => ?_) AllReadyH.nil
            try rw [if_pos (by rfl)]
            go_simp
            go_at_call 15
            refine Calls.mono (by with_reducible exact HXs.out) ?_
            rintro e5 w5 ⟨done, rest, A5, c5, hL, h1, h2, rfl, ho5, hm5, hb5, hk5⟩
            have HKp5 : Hid (Kp b0 W1 w5) := Lib.hid (fun o ho => hk5 o ho)
            have HB5 : Hid (Below w.heap.size w w5) := Lib.hid (HB1w.out.trans ((Below.refl _ W1).drew.trans hb5))
            have hok5 := HOkL.out
            rw [hL] at hm5 hok5
            have HYs := Lib.hid (kill_y hm5 hok5 HB5.out.size h1 h2 ho5)
            have HDn : Hid (done.length ≤ 65536) := Lib.hid (by have h1 := hok5.room; have h2 := hok5.few; rw [List.length_append] at h2; omega)
            clear hL h1 h2 ho5 hm5 hb5 hk5 hok5
            go_wp2_with fail
            refine hK.out _ _ (HCk.out _ HKp5.out) (fun hHeld2 => ?_)
            clear hK K hHeld
            have hHeld := hHeld2
            clear hHeld2
            try simp only [Act.put, List.setIfInBounds_toArray, List.set_cons_zero, List.set_cons_succ, List.getElem_toArray, List.getElem_cons_succ, List.getElem_cons_zero]
            refine wpAnyH_ready (rs := [7]) (by kernel_rfl) (by simp) ?_
            refine AllReadyH.cons rfl (fun K hK => ?_) AllReadyH.nil
            try rw [if_pos (by rfl)]
            go_simp
            go_at_call 16
            refine Calls.mono (by with_reducible exact HYs.out) ?_
            rintro e6 w6 ⟨A6, c6, rfl, hr6, hr5, hu6, hb6, hk6⟩
            have HKp6 : Hid (Kp b0 W1 w6) := Lib.hid (fun o ho => hk6 o (HKp5.out o ho))
            have HB6a : Hid (Below w.heap.size w w6) := Lib.hid (HB5.out.trans hb6)
            have HSm := Lib.hid (same_yes (n := done.length) (c1 := c5) (c2 := c6) hr5 hr6 rfl rfl HDn.out)
            have HB6v := Lib.hid hu6
            clear hr6 hr5 hu6 hb6 hk6
            go_wp2_with fail
            refine hK.out _ _ (HCk.out _ HKp6.out) (fun hHeld2 => ?_)
            clear hK K hHeld
            have hHeld := hHeld2
            clear hHeld2
            try simp only [Act.put, List.setIfInBounds_toArray, List.set_cons_zero, List.set_cons_succ, List.getElem_toArray, List.getElem_cons_succ, List.getElem_cons_zero]
            refine wpAnyH_ready (rs := [8]) (by kernel_rfl) (by simp) ?_
            refine AllReadyH.cons rfl (fun K hK => ?_) AllReadyH.nil
            try rw [if_pos (by rfl)]
            go_simp
            go_at_call 14
            refine Calls.mono (by with_reducible exact HSm.out) ?_
            rintro e7 w7 ⟨rfl, hb7⟩
            have HKp7 : Hid (Kp b0 W1 w7) := Lib.hid (fun o ho => kp_of hb7 o (HKp6.out o ho))
            have HB6 : Hid (Below w.heap.size w w7) := Lib.hid (HB6a.out.trans (hb7.mono HB6a.out.size))
            have HB6u := Lib.hid (HB6v.out.later hb7)
            have HK6 := Lib.hid (HKp7.out _ HK1.out)
            clear hb7
            go_wp2_with fail
            refine hK.out _ _ (HCk.out _ HKp7.out) (fun hHeld2 => ?_)
            clear hK K hHeld
            have hHeld := hHeld2
            clear hHeld2
            try simp only [Act.put, List.setIfInBounds_toArray, List.set_cons_zero, List.set_cons_succ, List.getElem_toArray, List.getElem_cons_succ, List.getElem_cons_zero]
            refine wpAnyH_take (i := 9) (v := ?vv31) rfl (by kernel_rfl) (by kernel_rfl) (by kernel_rfl) (fun _ _ _ h => h) (Or.inl ⟨by rfl, ?hy31⟩) hHeld ?rr31
            case hy31 => (intro w' hSw; obtain ⟨g1, g2, g3, g4, g5⟩ := hSw; go_simp; try with_reducible rfl)
            try simp only [Act.put, List.setIfInBounds_toArray, List.set_cons_zero, List.set_cons_succ, List.getElem_toArray, List.getElem_cons_succ, List.getElem_cons_zero]
            refine wpAnyH_done (by kernel_rfl) ?_ _
            clear hHeld
            go_wp2
            go_meet
            exact ⟨s, rest, rfl, by omega, HB6u, HB6, HK6⟩
        have b1 : (kd == 1) = false := by rw [beq_eq_false_iff_ne]; exact hd1
        have b2 : (kd == 2) = false := by rw [beq_eq_false_iff_ne]; exact hd2
        have b3 : (kd == 3) = false := by rw [beq_eq_false_iff_ne]; exact hd3
        go_wp2
        go_meet
        exact ⟨s, L, rfl, by omega, HBu1, HB1w, HK1⟩
      case rest =>
        clear HBu1 HB1w HK1
        obtain ⟨s', L', rfl, hs', HBu, HB, HK⟩ := hcut
        clear HXn HYn HB1 HB2 HLi
        obtain ⟨F, hx⟩ := HBu.out.ex
        have hokL := hx.ok
        have hfw : L'.length ≤ 65536 := by have h1 := hokL.room; have h2 := hokL.few; omega
        have HFd := Lib.hid (fun V (hV : Below wc.heap.size wc V) => rfind_any (HBu.out.ry.later hV) ⟨j, oc, ho⟩ hfw)
        have HAl := Lib.hid (fun V (hV : Below wc.heap.size wc V) => callsIn_wide.1 (xall_in (hx.later hV)))
        have HFr := Lib.hid (fun V (hV : Below wc.heap.size wc V) => (hx.later hV).free)
        obtain ⟨Ay, cy, hy, hoy⟩ := HBu.out.ry
        have HYc := Lib.hid (fun V (hV : Below wc.heap.size wc V) => (show V.cell? ⟨y, 1, none⟩ = some (.slice Ay L'.length cy) from cell_later hV (cell_of_row _ _ 1 _ _ _ hy)))
        have HRd := Lib.hid (fun V (hV : Below wc.heap.size wc V) => (rd_of hoy rfl).later hV)
        have HSm := Lib.hid (fun V A4 c4 b (hV : Below wc.heap.size wc V) (ho4 : V.ownsRow b 41 4 (.slice A4 L'.length c4) L'.length (cellsR L')) => same_yes (n := L'.length) (c1 := c4) (c2 := cy) (rd_of ho4 rfl) (HRd.out V hV) rfl rfl hfw)
        have hlow : (L'.length : Int) ≤ slots := hokL.few
        have hlow0 : (0 : Int) ≤ (L'.length : Int) := by omega
        have hroom1 := hokL.room.1
        have hroom2 := hokL.room.2
        obtain ⟨q1, _⟩ := cells_of_heap HK.out
        have d1 := q1 1
        have d2 := q1 2
        have d3 := q1 3
        have HKb := Lib.hid (fun V (hV : Below wc.heap.size wc V) => (hV.block _ (heap_lt HK.out)).trans HK.out)
        clear q1 hy hoy
        have tF : True := trivial
        by_cases hin : ∃ r ∈ L', r.key = ⟨j, oc, ho⟩
        · obtain ⟨r, hr, hrk⟩ := hin
          have HGe := Lib.hid (hx.get_hit hr)
          have HFI : Hid (∀ idx, FindIs L' ⟨j, oc, ho⟩ idx → ∃ i : Nat, ∃ h : i < L'.length, idx = (i : Int) ∧ L'[i] = r) := Lib.hid (fun idx hf => by
            rcases hf with ⟨_, hno⟩ | ⟨i, hi, rfl, e⟩
            · exact absurd hrk (hno r hr)
            · exact ⟨i, hi, rfl, hokL.keys _ (List.getElem_mem hi) r hr (by rw [e, hrk])⟩)
          obtain ⟨r0, l0, hL0⟩ : ∃ r0 l0, L' = r0 :: l0 := by
            cases L' with
            | nil => cases hr
            | cons a l => exact ⟨a, l, rfl⟩
          have HNx := Lib.hid (fun V (hV : Below wc.heap.size wc V) => (show Calls Try.prog 19 #[.pointer (some ⟨x, 0, none⟩)] V fun e w' => e = .returned (.tuple #[.int .i64 r0.until_, .bool true]) ∧ Below V.heap.size V w' by
            have h := (hx.later hV).next
            rw [hL0] at h
            exact h))
          have HR0 := Lib.hid (fun V (hV : Below wc.heap.size wc V) => (show ∃ g, Ay = some ⟨g, 0, none⟩ ∧ V.cell? ⟨g, 3, none⟩ = some (.int .i64 r0.until_) by
            obtain ⟨g, e, hc⟩ := HRd.out V hV 0 (by rw [hL0]; simp)
            refine ⟨g, e, ?_⟩
            have h := hc 3 (by omega)
            simp only [Nat.zero_mul, Nat.zero_add] at h
            rw [h]
            simp [hL0, goC]))
          have hlen1 : 0 < L'.length := by rw [hL0]; simp
          have hlen2 : (0 : Int) < (L'.length : Int) := by omega
          obtain ⟨u0, hu0⟩ : ∃ u0, u0 = r0.until_ := ⟨_, rfl⟩
          rw [← hu0] at HNx HR0
          obtain ⟨⟨rj, ro, rg⟩, ru, rnum⟩ := r
          simp only at hrk
          injection hrk with e1 e2 e3
          subst e1
          subst e2
          subst e3
          clear hr hL0 hu0 hx hokL
          as_aux_lemma =>
            go_wp2_with (first
              | (go_at_call 17; refine Calls.mono (by with_reducible exact HGe.out) ?_; rintro e1 w1 ⟨rfl, hb⟩; have HB1 := Lib.hid (hb.alloc hb.size (.cells #[.string rj, .int .i64 ro, .int .i64 rg, .int .i64 ru] 41)); obtain ⟨q1, _⟩ := cells_of_heap (HKb.out _ HB1.out); clear d1 d2 d3 hb; have d1 := q1 1; have d2 := q1 2; have d3 := q1 3; clear q1)
              | (go_at_call 18; refine Calls.mono (by with_reducible exact HFd.out _ HB1.out) ?_; rintro e2 w2 ⟨idx, rfl, hf, hb⟩; obtain ⟨i, hil, rfl, hri⟩ := HFI.out idx hf; have hi0 : (0 : Int) ≤ (i : Int) := (by omega); have hiL : (i : Int) < (L'.length : Int) := (by omega); have HRi := Lib.hid (fun V (hV : Below wc.heap.size wc V) => rd_cells (HRd.out V hV) hil hri); clear hri hil; have HG2 := Lib.hid (kept_new hb); have HB2 := Lib.hid (HB1.out.trans (hb.mono HB1.out.size)); clear hf hb d1 d2 d3)
              | (go_at_call 19; refine Calls.mono (by with_reducible exact HNx.out _ HB2.out) ?_; rintro e3 w3 ⟨rfl, hb⟩; have HB3 := Lib.hid (HB2.out.trans (hb.mono HB2.out.size)); obtain ⟨q1, _⟩ := cells_of_heap ((hb.block _ (heap_lt HG2.out)).trans HG2.out); have v0 := q1 0; have v1 := q1 1; have v2 := q1 2; have v3 := q1 3; have cy3 := HYc.out _ HB3.out; obtain ⟨g, hAy, k0⟩ := HR0.out _ HB3.out; obtain ⟨m0, m1, m2, m3⟩ := HRi.out _ HB3.out g hAy; subst hAy; have hgn := going_neq; clear q1 hb))
            have HS : Hid (∀ V, Below w3.heap.size w3 V → V.cell? ⟨y, 1, none⟩ = some (.slice (some ⟨g, 0, none⟩) L'.length cy) ∧ V.cell? ⟨w1.heap.size, 0, none⟩ = some (.string rj) ∧ V.cell? ⟨w1.heap.size, 1, none⟩ = some (.int .i64 ro) ∧ V.cell? ⟨w1.heap.size, 2, none⟩ = some (.int .i64 rg) ∧ V.cell? ⟨w1.heap.size, 3, none⟩ = some (.int .i64 ru) ∧ V.cell? ⟨g, i * 4, none⟩ = some (.string rj) ∧ V.cell? ⟨g, i * 4 + 1, none⟩ = some (.int .i64 ro) ∧ V.cell? ⟨g, i * 4 + 2, none⟩ = some (.int .i64 rg) ∧ V.cell? ⟨g, i * 4 + 3, none⟩ = some (.int .i64 ru) ∧ V.cell? ⟨g, 3, none⟩ = some (.int .i64 u0)) := Lib.hid (fun V hV => have hV2 := HB3.out.trans (hV.mono HB3.out.size); ⟨HYc.out _ hV2, cell_later hV v0, cell_later hV v1, cell_later hV v2, cell_later hV v3, cell_later hV m0, cell_later hV m1, cell_later hV m2, cell_later hV m3, cell_later hV k0⟩)
            have hws : IntKind.i64.wrap (slots - (L'.length : Int)) = slots - (L'.length : Int) := IntWalk.i64_in _ ⟨by omega, by omega⟩
            simp only [List.append]
            refine wp_region_held_drew (S := (fun V => Below w3.heap.size w3 V)) (by kernel_rfl) (Below.refl _ _).drew (fun hHeld => ?_)
            refine wpAnyH_take (i := 0) (v := ?vv32) rfl (by kernel_rfl) (by kernel_rfl) (by kernel_rfl) (fun _ _ _ h => h) (Or.inl ⟨by rfl, ?hy32⟩) hHeld ?rr32
            case hy32 => (intro w' hSw; obtain ⟨g1, v0, v1, v2, v3, m0, m1, m2, m3, k0⟩ := HS.out _ hSw; go_simp; try with_reducible rfl)
            try simp only [Act.put, List.setIfInBounds_toArray, List.set_cons_zero, List.set_cons_succ, List.getElem_toArray, List.getElem_cons_succ, List.getElem_cons_zero]
            refine wpAnyH_take (i := 1) (v := ?vv33) rfl (by kernel_rfl) (by kernel_rfl) (by kernel_rfl) (fun _ _ _ h => h) (Or.inl ⟨by rfl, ?hy33⟩) hHeld ?rr33
            case hy33 => (intro w' hSw; obtain ⟨g1, v0, v1, v2, v3, m0, m1, m2, m3, k0⟩ := HS.out _ hSw; go_simp; try with_reducible rfl)
            try simp only [Act.put, List.setIfInBounds_toArray, List.set_cons_zero, List.set_cons_succ, List.getElem_toArray, List.getElem_cons_succ, List.getElem_cons_zero]
            refine wpAnyH_take (i := 2) (v := ?vv34) rfl (by kernel_rfl) (by kernel_rfl) (by kernel_rfl) (fun _ _ _ h => h) (Or.inl ⟨by rfl, ?hy34⟩) hHeld ?rr34
            case hy34 => (intro w' hSw; obtain ⟨g1, v0, v1, v2, v3, m0, m1, m2, m3, k0⟩ := HS.out _ hSw; go_simp; try with_reducible rfl)
            try simp only [Act.put, List.setIfInBounds_toArray, List.set_cons_zero, List.set_cons_succ, List.getElem_toArray, List.getElem_cons_succ, List.getElem_cons_zero]
            refine wpAnyH_take (i := 3) (v := ?vv35) rfl (by kernel_rfl) (by kernel_rfl) (by kernel_rfl) (fun _ _ _ h => h) (Or.inl ⟨by rfl, ?hy35⟩) hHeld ?rr35
            case hy35 => (intro w' hSw; obtain ⟨g1, v0, v1, v2, v3, m0, m1, m2, m3, k0⟩ := HS.out _ hSw; go_simp; try with_reducible rfl)
            try simp only [Act.put, List.setIfInBounds_toArray, List.set_cons_zero, List.set_cons_succ, List.getElem_toArray, List.getElem_cons_succ, List.getElem_cons_zero]
            refine wpAnyH_take (i := 4) (v := ?vv36) rfl (by kernel_rfl) (by kernel_rfl) (by kernel_rfl) (fun _ _ _ h => h) (Or.inl ⟨by rfl, ?hy36⟩) hHeld ?rr36
            case hy36 => (intro w' hSw; obtain ⟨g1, v0, v1, v2, v3, m0, m1, m2, m3, k0⟩ := HS.out _ hSw; go_simp; try with_reducible rfl)
            try simp only [Act.put, List.setIfInBounds_toArray, List.set_cons_zero, List.set_cons_succ, List.getElem_toArray, List.getElem_cons_succ, List.getElem_cons_zero]
            refine wpAnyH_take (i := 5) (v := ?vv37) rfl (by kernel_rfl) (by kernel_rfl) (by kernel_rfl) (fun _ _ _ h => h) (Or.inl ⟨by rfl, ?hy37⟩) hHeld ?rr37
            case hy37 => (intro w' hSw; obtain ⟨g1, v0, v1, v2, v3, m0, m1, m2, m3, k0⟩ := HS.out _ hSw; go_simp; try with_reducible rfl)
            try simp only [Act.put, List.setIfInBounds_toArray, List.set_cons_zero, List.set_cons_succ, List.getElem_toArray, List.getElem_cons_succ, List.getElem_cons_zero]
            refine wpAnyH_take (i := 6) (v := ?vv38) rfl (by kernel_rfl) (by kernel_rfl) (by kernel_rfl) (fun _ _ _ h => h) (Or.inl ⟨by rfl, ?hy38⟩) hHeld ?rr38
            case hy38 => (intro w' hSw; obtain ⟨g1, v0, v1, v2, v3, m0, m1, m2, m3, k0⟩ := HS.out _ hSw; go_simp; try with_reducible rfl)
            try simp only [Act.put, List.setIfInBounds_toArray, List.set_cons_zero, List.set_cons_succ, List.getElem_toArray, List.getElem_cons_succ, List.getElem_cons_zero]
            refine wpAnyH_take (i := 7) (v := ?vv39) rfl (by kernel_rfl) (by kernel_rfl) (by kernel_rfl) (fun _ _ _ h => h) (Or.inl ⟨by rfl, ?hy39⟩) hHeld ?rr39
            case hy39 => (intro w' hSw; obtain ⟨g1, v0, v1, v2, v3, m0, m1, m2, m3, k0⟩ := HS.out _ hSw; go_simp; try with_reducible rfl)
            try simp only [Act.put, List.setIfInBounds_toArray, List.set_cons_zero, List.set_cons_succ, List.getElem_toArray, List.getElem_cons_succ, List.getElem_cons_zero]
            refine wpAnyH_take (i := 8) (v := ?vv40) rfl (by kernel_rfl) (by kernel_rfl) (by kernel_rfl) (fun _ _ _ h => h) (Or.inl ⟨by rfl, ?hy40⟩) hHeld ?rr40
            case hy40 => (intro w' hSw; obtain ⟨g1, v0, v1, v2, v3, m0, m1, m2, m3, k0⟩ := HS.out _ hSw; go_simp; try with_reducible rfl)
            try simp only [Act.put, List.setIfInBounds_toArray, List.set_cons_zero, List.set_cons_succ, List.getElem_toArray, List.getElem_cons_succ, List.getElem_cons_zero]
            refine wpAnyH_take (i := 9) (v := ?vv41) rfl (by kernel_rfl) (by kernel_rfl) (by kernel_rfl) (fun _ _ _ h => h) (Or.inl ⟨by rfl, ?hy41⟩) hHeld ?rr41
            case hy41 => (intro w' hSw; obtain ⟨g1, v0, v1, v2, v3, m0, m1, m2, m3, k0⟩ := HS.out _ hSw; go_simp; try with_reducible rfl)
            try simp only [Act.put, List.setIfInBounds_toArray, List.set_cons_zero, List.set_cons_succ, List.getElem_toArray, List.getElem_cons_succ, List.getElem_cons_zero]
            refine wpAnyH_take (i := 10) (v := ?vv42) rfl (by kernel_rfl) (by kernel_rfl) (by kernel_rfl) (fun _ _ _ h => h) (Or.inl ⟨by rfl, ?hy42⟩) hHeld ?rr42
            case hy42 => (intro w' hSw; obtain ⟨g1, v0, v1, v2, v3, m0, m1, m2, m3, k0⟩ := HS.out _ hSw; go_simp; try with_reducible rfl)
            try simp only [Act.put, List.setIfInBounds_toArray, List.set_cons_zero, List.set_cons_succ, List.getElem_toArray, List.getElem_cons_succ, List.getElem_cons_zero]
            refine wpAnyH_take (i := 11) (v := ?vv43) rfl (by kernel_rfl) (by kernel_rfl) (by kernel_rfl) (fun _ _ _ h => h) (Or.inl ⟨by rfl, ?hy43⟩) hHeld ?rr43
            case hy43 => (intro w' hSw; obtain ⟨g1, v0, v1, v2, v3, m0, m1, m2, m3, k0⟩ := HS.out _ hSw; go_simp; try with_reducible rfl)
            try simp only [Act.put, List.setIfInBounds_toArray, List.set_cons_zero, List.set_cons_succ, List.getElem_toArray, List.getElem_cons_succ, List.getElem_cons_zero]
            refine wpAnyH_take (i := 12) (v := ?vv44) rfl (by kernel_rfl) (by kernel_rfl) (by kernel_rfl) (fun _ _ _ h => h) (Or.inl ⟨by rfl, ?hy44⟩) hHeld ?rr44
            case hy44 => (intro w' hSw; obtain ⟨g1, v0, v1, v2, v3, m0, m1, m2, m3, k0⟩ := HS.out _ hSw; go_simp; try with_reducible rfl)
            try simp only [Act.put, List.setIfInBounds_toArray, List.set_cons_zero, List.set_cons_succ, List.getElem_toArray, List.getElem_cons_succ, List.getElem_cons_zero]
            refine wpAnyH_take (i := 13) (v := ?vv45) rfl (by kernel_rfl) (by kernel_rfl) (by kernel_rfl) (fun _ _ _ h => h) (Or.inl ⟨by rfl, ?hy45⟩) hHeld ?rr45
            case hy45 => (intro w' hSw; obtain ⟨g1, v0, v1, v2, v3, m0, m1, m2, m3, k0⟩ := HS.out _ hSw; go_simp; try with_reducible rfl)
            try simp only [Act.put, List.setIfInBounds_toArray, List.set_cons_zero, List.set_cons_succ, List.getElem_toArray, List.getElem_cons_succ, List.getElem_cons_zero]
            refine wpAnyH_take (i := 14) (v := ?vv46) rfl (by kernel_rfl) (by kernel_rfl) (by kernel_rfl) (fun _ _ _ h => h) (Or.inl ⟨by rfl, ?hy46⟩) hHeld ?rr46
            case hy46 => (intro w' hSw; obtain ⟨g1, v0, v1, v2, v3, m0, m1, m2, m3, k0⟩ := HS.out _ hSw; go_simp; try with_reducible rfl)
            try simp only [Act.put, List.setIfInBounds_toArray, List.set_cons_zero, List.set_cons_succ, List.getElem_toArray, List.getElem_cons_succ, List.getElem_cons_zero]
            refine wpAnyH_take (i := 15) (v := ?vv47) rfl (by kernel_rfl) (by kernel_rfl) (by kernel_rfl) (fun _ _ _ h => h) (Or.inl ⟨by rfl, ?hy47⟩) hHeld ?rr47
            case hy47 => (intro w' hSw; obtain ⟨g1, v0, v1, v2, v3, m0, m1, m2, m3, k0⟩ := HS.out _ hSw; go_simp; try with_reducible rfl)
            try simp only [Act.put, List.setIfInBounds_toArray, List.set_cons_zero, List.set_cons_succ, List.getElem_toArray, List.getElem_cons_succ, List.getElem_cons_zero]
            refine wpAnyH_take (i := 16) (v := ?vv48) rfl (by kernel_rfl) (by kernel_rfl) (by kernel_rfl) (fun _ _ _ h => h) (Or.inl ⟨by rfl, ?hy48⟩) hHeld ?rr48
            case hy48 => (intro w' hSw; obtain ⟨g1, v0, v1, v2, v3, m0, m1, m2, m3, k0⟩ := HS.out _ hSw; go_simp; try with_reducible rfl)
            try simp only [Act.put, List.setIfInBounds_toArray, List.set_cons_zero, List.set_cons_succ, List.getElem_toArray, List.getElem_cons_succ, List.getElem_cons_zero]
            refine wpAnyH_take (i := 17) (v := ?vv49) rfl (by kernel_rfl) (by kernel_rfl) (by kernel_rfl) (fun _ _ _ h => h) (Or.inl ⟨by rfl, ?hy49⟩) hHeld ?rr49
            case hy49 => (intro w' hSw; obtain ⟨g1, v0, v1, v2, v3, m0, m1, m2, m3, k0⟩ := HS.out _ hSw; go_simp; try with_reducible rfl)
            try simp only [Act.put, List.setIfInBounds_toArray, List.set_cons_zero, List.set_cons_succ, List.getElem_toArray, List.getElem_cons_succ, List.getElem_cons_zero]
            refine wpAnyH_take (i := 18) (v := ?vv50) rfl (by kernel_rfl) (by kernel_rfl) (by kernel_rfl) (fun _ _ _ h => h) (Or.inl ⟨by rfl, ?hy50⟩) hHeld ?rr50
            case hy50 => (intro w' hSw; obtain ⟨g1, v0, v1, v2, v3, m0, m1, m2, m3, k0⟩ := HS.out _ hSw; go_simp; try with_reducible rfl)
            try simp only [Act.put, List.setIfInBounds_toArray, List.set_cons_zero, List.set_cons_succ, List.getElem_toArray, List.getElem_cons_succ, List.getElem_cons_zero]
            refine wpAnyH_take (i := 19) (v := ?vv51) rfl (by kernel_rfl) (by kernel_rfl) (by kernel_rfl) (fun _ _ _ h => h) (Or.inl ⟨by rfl, ?hy51⟩) hHeld ?rr51
            case hy51 => (intro w' hSw; obtain ⟨g1, v0, v1, v2, v3, m0, m1, m2, m3, k0⟩ := HS.out _ hSw; go_simp; try with_reducible rfl)
            try simp only [Act.put, List.setIfInBounds_toArray, List.set_cons_zero, List.set_cons_succ, List.getElem_toArray, List.getElem_cons_succ, List.getElem_cons_zero]
            refine wpAnyH_take (i := 20) (v := ?vv52) rfl (by kernel_rfl) (by kernel_rfl) (by kernel_rfl) (fun _ _ _ h => h) (Or.inl ⟨by rfl, ?hy52⟩) hHeld ?rr52
            case hy52 => (intro w' hSw; obtain ⟨g1, v0, v1, v2, v3, m0, m1, m2, m3, k0⟩ := HS.out _ hSw; go_simp; try with_reducible rfl)
            try simp only [Act.put, List.setIfInBounds_toArray, List.set_cons_zero, List.set_cons_succ, List.getElem_toArray, List.getElem_cons_succ, List.getElem_cons_zero]
            refine wpAnyH_take (i := 21) (v := ?vv53) rfl (by kernel_rfl) (by kernel_rfl) (by kernel_rfl) (fun _ _ _ h => h) (Or.inl ⟨by rfl, ?hy53⟩) hHeld ?rr53
            case hy53 => (intro w' hSw; obtain ⟨g1, v0, v1, v2, v3, m0, m1, m2, m3, k0⟩ := HS.out _ hSw; go_simp; try with_reducible rfl)
            try simp only [Act.put, List.setIfInBounds_toArray, List.set_cons_zero, List.set_cons_succ, List.getElem_toArray, List.getElem_cons_succ, List.getElem_cons_zero]
            refine wpAnyH_take (i := 22) (v := ?vv54) rfl (by kernel_rfl) (by kernel_rfl) (by kernel_rfl) (fun _ _ _ h => h) (Or.inl ⟨by rfl, ?hy54⟩) hHeld ?rr54
            case hy54 => (intro w' hSw; obtain ⟨g1, v0, v1, v2, v3, m0, m1, m2, m3, k0⟩ := HS.out _ hSw; go_simp; try with_reducible rfl)
            try simp only [Act.put, List.setIfInBounds_toArray, List.set_cons_zero, List.set_cons_succ, List.getElem_toArray, List.getElem_cons_succ, List.getElem_cons_zero]
            refine wpAnyH_take (i := 23) (v := ?vv55) rfl (by kernel_rfl) (by kernel_rfl) (by kernel_rfl) (fun _ _ _ h => h) (Or.inl ⟨by rfl, ?hy55⟩) hHeld ?rr55
            case hy55 => (intro w' hSw; obtain ⟨g1, v0, v1, v2, v3, m0, m1, m2, m3, k0⟩ := HS.out _ hSw; go_simp; try with_reducible rfl)
            try simp only [Act.put, List.setIfInBounds_toArray, List.set_cons_zero, List.set_cons_succ, List.getElem_toArray, List.getElem_cons_succ, List.getElem_cons_zero]
            refine wpAnyH_take (i := 25) (v := ?vv56) rfl (by kernel_rfl) (by kernel_rfl) (by kernel_rfl) (fun _ _ _ h => h) (Or.inl ⟨by rfl, ?hy56⟩) hHeld ?rr56
            case hy56 => (intro w' hSw; obtain ⟨g1, v0, v1, v2, v3, m0, m1, m2, m3, k0⟩ := HS.out _ hSw; go_simp; try with_reducible rfl)
            try simp only [Act.put, List.setIfInBounds_toArray, List.set_cons_zero, List.set_cons_succ, List.getElem_toArray, List.getElem_cons_succ, List.getElem_cons_zero]
            refine wpAnyH_take (i := 26) (v := ?vv57) rfl (by kernel_rfl) (by kernel_rfl) (by kernel_rfl) (fun _ _ _ h => h) (Or.inl ⟨by rfl, ?hy57⟩) hHeld ?rr57
            case hy57 => (intro w' hSw; obtain ⟨g1, v0, v1, v2, v3, m0, m1, m2, m3, k0⟩ := HS.out _ hSw; go_simp; try with_reducible rfl)
            try simp only [Act.put, List.setIfInBounds_toArray, List.set_cons_zero, List.set_cons_succ, List.getElem_toArray, List.getElem_cons_succ, List.getElem_cons_zero]
            refine wpAnyH_take (i := 27) (v := ?vv58) rfl (by kernel_rfl) (by kernel_rfl) (by kernel_rfl) (fun _ _ _ h => h) (Or.inl ⟨by rfl, ?hy58⟩) hHeld ?rr58
            case hy58 => (intro w' hSw; obtain ⟨g1, v0, v1, v2, v3, m0, m1, m2, m3, k0⟩ := HS.out _ hSw; go_simp; try with_reducible rfl)
            try simp only [Act.put, List.setIfInBounds_toArray, List.set_cons_zero, List.set_cons_succ, List.getElem_toArray, List.getElem_cons_succ, List.getElem_cons_zero]
            refine wpAnyH_take (i := 28) (v := ?vv59) rfl (by kernel_rfl) (by kernel_rfl) (by kernel_rfl) (fun _ _ _ h => h) (Or.inl ⟨by rfl, ?hy59⟩) hHeld ?rr59
            case hy59 => (intro w' hSw; obtain ⟨g1, v0, v1, v2, v3, m0, m1, m2, m3, k0⟩ := HS.out _ hSw; go_simp; try with_reducible rfl)
            try simp only [Act.put, List.setIfInBounds_toArray, List.set_cons_zero, List.set_cons_succ, List.getElem_toArray, List.getElem_cons_succ, List.getElem_cons_zero]
            refine wpAnyH_ready (rs := [24]) (by kernel_rfl) (by simp) ?_
            refine AllReadyH.cons rfl (fun K hK => ?_) AllReadyH.nil
            try rw [if_pos (by rfl)]
            go_simp
            go_at_call 20
            refine Calls.mono (by with_reducible exact HAl.out _ HB3.out.drew) ?_
            rintro e4 w4 ⟨A4, c4, rfl, ho4, hb⟩
            have H34 : Hid (Below w3.heap.size w3 w4) := Lib.hid ((Below.refl w3.heap.size w3).drew.trans hb)
            have HSm4 := Lib.hid (HSm.out _ A4 c4 _ (HB3.out.trans (H34.out.mono HB3.out.size)) ho4)
            clear ho4 hb
            go_wp2_with fail
            refine hK.out _ _ H34.out (fun hHeld2 => ?_)
            clear hK K hHeld
            have hHeld := hHeld2
            clear hHeld2
            try simp only [Act.put, List.setIfInBounds_toArray, List.set_cons_zero, List.set_cons_succ, List.getElem_toArray, List.getElem_cons_succ, List.getElem_cons_zero]
            refine wpAnyH_ready (rs := [29]) (by kernel_rfl) (by simp) ?_
            refine AllReadyH.cons rfl (fun K hK => ?_) AllReadyH.nil
            try rw [if_pos (by rfl)]
            go_simp
            go_at_call 14
            refine Calls.mono (by with_reducible exact HSm4.out) ?_
            rintro e5 w5 ⟨rfl, hb⟩
            have H35 : Hid (Below w3.heap.size w3 w5) := Lib.hid (H34.out.trans (hb.mono H34.out.size))
            clear hb
            go_wp2_with fail
            refine hK.out _ _ H35.out (fun hHeld2 => ?_)
            clear hK K hHeld
            have hHeld := hHeld2
            clear hHeld2
            try simp only [Act.put, List.setIfInBounds_toArray, List.set_cons_zero, List.set_cons_succ, List.getElem_toArray, List.getElem_cons_succ, List.getElem_cons_zero]
            refine wpAnyH_take (i := 30) (v := ?vv60) rfl (by kernel_rfl) (by kernel_rfl) (by kernel_rfl) (fun _ _ _ h => h) (Or.inl ⟨by rfl, ?hy60⟩) hHeld ?rr60
            case hy60 => (intro w' hSw; obtain ⟨g1, v0, v1, v2, v3, m0, m1, m2, m3, k0⟩ := HS.out _ hSw; go_simp; try with_reducible rfl)
            try simp only [Act.put, List.setIfInBounds_toArray, List.set_cons_zero, List.set_cons_succ, List.getElem_toArray, List.getElem_cons_succ, List.getElem_cons_zero]
            refine wpAnyH_take (i := 31) (v := ?vv61) rfl (by kernel_rfl) (by kernel_rfl) (by kernel_rfl) (fun _ _ _ h => h) (Or.inl ⟨by rfl, ?hy61⟩) hHeld ?rr61
            case hy61 => (intro w' hSw; obtain ⟨g1, v0, v1, v2, v3, m0, m1, m2, m3, k0⟩ := HS.out _ hSw; go_simp; try with_reducible rfl)
            try simp only [Act.put, List.setIfInBounds_toArray, List.set_cons_zero, List.set_cons_succ, List.getElem_toArray, List.getElem_cons_succ, List.getElem_cons_zero]
            refine wpAnyH_take (i := 32) (v := ?vv62) rfl (by kernel_rfl) (by kernel_rfl) (by kernel_rfl) (fun _ _ _ h => h) (Or.inl ⟨by rfl, ?hy62⟩) hHeld ?rr62
            case hy62 => (intro w' hSw; obtain ⟨g1, v0, v1, v2, v3, m0, m1, m2, m3, k0⟩ := HS.out _ hSw; go_simp; try with_reducible rfl)
            try simp only [Act.put, List.setIfInBounds_toArray, List.set_cons_zero, List.set_cons_succ, List.getElem_toArray, List.getElem_cons_succ, List.getElem_cons_zero]
            refine wpAnyH_take (i := 33) (v := ?vv63) rfl (by kernel_rfl) (by kernel_rfl) (by kernel_rfl) (fun _ _ _ h => h) (Or.inl ⟨by rfl, ?hy63⟩) hHeld ?rr63
            case hy63 => (intro w' hSw; obtain ⟨g1, v0, v1, v2, v3, m0, m1, m2, m3, k0⟩ := HS.out _ hSw; go_simp; try with_reducible rfl)
            try simp only [Act.put, List.setIfInBounds_toArray, List.set_cons_zero, List.set_cons_succ, List.getElem_toArray, List.getElem_cons_succ, List.getElem_cons_zero]
            refine wpAnyH_take (i := 35) (v := ?vv64) rfl (by kernel_rfl) (by kernel_rfl) (by kernel_rfl) (fun _ _ _ h => h) (Or.inl ⟨by rfl, ?hy64⟩) hHeld ?rr64
            case hy64 => (intro w' hSw; obtain ⟨g1, v0, v1, v2, v3, m0, m1, m2, m3, k0⟩ := HS.out _ hSw; go_simp; try with_reducible rfl)
            try simp only [Act.put, List.setIfInBounds_toArray, List.set_cons_zero, List.set_cons_succ, List.getElem_toArray, List.getElem_cons_succ, List.getElem_cons_zero]
            refine wpAnyH_take (i := 36) (v := ?vv65) rfl (by kernel_rfl) (by kernel_rfl) (by kernel_rfl) (fun _ _ _ h => h) (Or.inl ⟨by rfl, ?hy65⟩) hHeld ?rr65
            case hy65 => (intro w' hSw; obtain ⟨g1, v0, v1, v2, v3, m0, m1, m2, m3, k0⟩ := HS.out _ hSw; go_simp; try with_reducible rfl)
            try simp only [Act.put, List.setIfInBounds_toArray, List.set_cons_zero, List.set_cons_succ, List.getElem_toArray, List.getElem_cons_succ, List.getElem_cons_zero]
            refine wpAnyH_take (i := 37) (v := ?vv66) rfl (by kernel_rfl) (by kernel_rfl) (by kernel_rfl) (fun _ _ _ h => h) (Or.inl ⟨by rfl, ?hy66⟩) hHeld ?rr66
            case hy66 => (intro w' hSw; obtain ⟨g1, v0, v1, v2, v3, m0, m1, m2, m3, k0⟩ := HS.out _ hSw; go_simp; try with_reducible rfl)
            try simp only [Act.put, List.setIfInBounds_toArray, List.set_cons_zero, List.set_cons_succ, List.getElem_toArray, List.getElem_cons_succ, List.getElem_cons_zero]
            refine wpAnyH_take (i := 38) (v := ?vv67) rfl (by kernel_rfl) (by kernel_rfl) (by kernel_rfl) (fun _ _ _ h => h) (Or.inl ⟨by rfl, ?hy67⟩) hHeld ?rr67
            case hy67 => (intro w' hSw; obtain ⟨g1, v0, v1, v2, v3, m0, m1, m2, m3, k0⟩ := HS.out _ hSw; go_simp; try with_reducible rfl)
            try simp only [Act.put, List.setIfInBounds_toArray, List.set_cons_zero, List.set_cons_succ, List.getElem_toArray, List.getElem_cons_succ, List.getElem_cons_zero]
            refine wpAnyH_take (i := 39) (v := ?vv68) rfl (by kernel_rfl) (by kernel_rfl) (by kernel_rfl) (fun _ _ _ h => h) (Or.inl ⟨by rfl, ?hy68⟩) hHeld ?rr68
            case hy68 => (intro w' hSw; obtain ⟨g1, v0, v1, v2, v3, m0, m1, m2, m3, k0⟩ := HS.out _ hSw; go_simp; try with_reducible rfl)
            try simp only [Act.put, List.setIfInBounds_toArray, List.set_cons_zero, List.set_cons_succ, List.getElem_toArray, List.getElem_cons_succ, List.getElem_cons_zero]
            refine wpAnyH_take (i := 40) (v := ?vv69) rfl (by kernel_rfl) (by kernel_rfl) (by kernel_rfl) (fun _ _ _ h => h) (Or.inl ⟨by rfl, ?hy69⟩) hHeld ?rr69
            case hy69 => (intro w' hSw; obtain ⟨g1, v0, v1, v2, v3, m0, m1, m2, m3, k0⟩ := HS.out _ hSw; go_simp; try with_reducible rfl)
            try simp only [Act.put, List.setIfInBounds_toArray, List.set_cons_zero, List.set_cons_succ, List.getElem_toArray, List.getElem_cons_succ, List.getElem_cons_zero]
            refine wpAnyH_take (i := 41) (v := ?vv70) rfl (by kernel_rfl) (by kernel_rfl) (by kernel_rfl) (fun _ _ _ h => h) (Or.inl ⟨by rfl, ?hy70⟩) hHeld ?rr70
            case hy70 => (intro w' hSw; obtain ⟨g1, v0, v1, v2, v3, m0, m1, m2, m3, k0⟩ := HS.out _ hSw; go_simp; try with_reducible rfl)
            try simp only [Act.put, List.setIfInBounds_toArray, List.set_cons_zero, List.set_cons_succ, List.getElem_toArray, List.getElem_cons_succ, List.getElem_cons_zero]
            refine wpAnyH_ready (rs := [34]) (by kernel_rfl) (by simp) ?_
            refine AllReadyH.cons rfl (fun K hK => ?_) AllReadyH.nil
            try rw [if_pos (by rfl)]
            go_simp
            go_at_call 21
            refine Calls.mono (by with_reducible exact HFr.out _ (HB3.out.trans (H35.out.mono HB3.out.size))) ?_
            rintro e6 w6 ⟨rfl, hb⟩
            have H36 : Hid (Below w3.heap.size w3 w6) := Lib.hid (H35.out.trans (hb.mono H35.out.size))
            clear hb
            go_wp2_with fail
            refine hK.out _ _ H36.out (fun hHeld2 => ?_)
            clear hK K hHeld
            have hHeld := hHeld2
            clear hHeld2
            try simp only [Act.put, List.setIfInBounds_toArray, List.set_cons_zero, List.set_cons_succ, List.getElem_toArray, List.getElem_cons_succ, List.getElem_cons_zero]
            refine wpAnyH_take (i := 42) (v := ?vv71) rfl (by kernel_rfl) (by kernel_rfl) (by kernel_rfl) (fun _ _ _ h => h) (Or.inl ⟨by rfl, ?hy71⟩) hHeld ?rr71
            case hy71 => (intro w' hSw; obtain ⟨g1, v0, v1, v2, v3, m0, m1, m2, m3, k0⟩ := HS.out _ hSw; go_simp; try with_reducible rfl)
            try simp only [Act.put, List.setIfInBounds_toArray, List.set_cons_zero, List.set_cons_succ, List.getElem_toArray, List.getElem_cons_succ, List.getElem_cons_zero]
            refine wpAnyH_take (i := 43) (v := ?vv72) rfl (by kernel_rfl) (by kernel_rfl) (by kernel_rfl) (fun _ _ _ h => h) (Or.inl ⟨by rfl, ?hy72⟩) hHeld ?rr72
            case hy72 => (intro w' hSw; obtain ⟨g1, v0, v1, v2, v3, m0, m1, m2, m3, k0⟩ := HS.out _ hSw; go_simp; try with_reducible rfl)
            try simp only [Act.put, List.setIfInBounds_toArray, List.set_cons_zero, List.set_cons_succ, List.getElem_toArray, List.getElem_cons_succ, List.getElem_cons_zero]
            refine wpAnyH_take (i := 44) (v := ?vv73) rfl (by kernel_rfl) (by kernel_rfl) (by kernel_rfl) (fun _ _ _ h => h) (Or.inl ⟨by rfl, ?hy73⟩) hHeld ?rr73
            case hy73 => (intro w' hSw; obtain ⟨g1, v0, v1, v2, v3, m0, m1, m2, m3, k0⟩ := HS.out _ hSw; go_simp; try with_reducible rfl)
            try simp only [Act.put, List.setIfInBounds_toArray, List.set_cons_zero, List.set_cons_succ, List.getElem_toArray, List.getElem_cons_succ, List.getElem_cons_zero]
            refine wpAnyH_take (i := 45) (v := ?vv74) rfl (by kernel_rfl) (by kernel_rfl) (by kernel_rfl) (fun _ _ _ h => h) (Or.inl ⟨by rfl, ?hy74⟩) hHeld ?rr74
            case hy74 => (intro w' hSw; obtain ⟨g1, v0, v1, v2, v3, m0, m1, m2, m3, k0⟩ := HS.out _ hSw; go_simp; try with_reducible rfl)
            try simp only [Act.put, List.setIfInBounds_toArray, List.set_cons_zero, List.set_cons_succ, List.getElem_toArray, List.getElem_cons_succ, List.getElem_cons_zero]
            refine wpAnyH_take (i := 46) (v := ?vv75) rfl (by kernel_rfl) (by kernel_rfl) (by kernel_rfl) (fun _ _ _ h => h) (Or.inl ⟨by rfl, ?hy75⟩) hHeld ?rr75
            case hy75 => (intro w' hSw; obtain ⟨g1, v0, v1, v2, v3, m0, m1, m2, m3, k0⟩ := HS.out _ hSw; go_simp; try with_reducible rfl)
            try simp only [Act.put, List.setIfInBounds_toArray, List.set_cons_zero, List.set_cons_succ, List.getElem_toArray, List.getElem_cons_succ, List.getElem_cons_zero]
            refine wpAnyH_take (i := 47) (v := ?vv76) rfl (by kernel_rfl) (by kernel_rfl) (by kernel_rfl) (fun _ _ _ h => h) (Or.inl ⟨by rfl, ?hy76⟩) hHeld ?rr76
            case hy76 => (intro w' hSw; obtain ⟨g1, v0, v1, v2, v3, m0, m1, m2, m3, k0⟩ := HS.out _ hSw; go_simp; try with_reducible rfl)
            try simp only [Act.put, List.setIfInBounds_toArray, List.set_cons_zero, List.set_cons_succ, List.getElem_toArray, List.getElem_cons_succ, List.getElem_cons_zero]
            refine wpAnyH_take (i := 48) (v := ?vv77) rfl (by kernel_rfl) (by kernel_rfl) (by kernel_rfl) (fun _ _ _ h => h) (Or.inl ⟨by rfl, ?hy77⟩) hHeld ?rr77
            case hy77 => (intro w' hSw; obtain ⟨g1, v0, v1, v2, v3, m0, m1, m2, m3, k0⟩ := HS.out _ hSw; go_simp; try with_reducible rfl)
            try simp only [Act.put, List.setIfInBounds_toArray, List.set_cons_zero, List.set_cons_succ, List.getElem_toArray, List.getElem_cons_succ, List.getElem_cons_zero]
            refine wpAnyH_take (i := 49) (v := ?vv78) rfl (by kernel_rfl) (by kernel_rfl) (by kernel_rfl) (fun _ _ _ h => h) (Or.inl ⟨by rfl, ?hy78⟩) hHeld ?rr78
            case hy78 => (intro w' hSw; obtain ⟨g1, v0, v1, v2, v3, m0, m1, m2, m3, k0⟩ := HS.out _ hSw; go_simp; try with_reducible rfl)
            try simp only [Act.put, List.setIfInBounds_toArray, List.set_cons_zero, List.set_cons_succ, List.getElem_toArray, List.getElem_cons_succ, List.getElem_cons_zero]
            refine wpAnyH_take (i := 50) (v := ?vv79) rfl (by kernel_rfl) (by kernel_rfl) (by kernel_rfl) (fun _ _ _ h => h) (Or.inl ⟨by rfl, ?hy79⟩) hHeld ?rr79
            case hy79 => (intro w' hSw; obtain ⟨g1, v0, v1, v2, v3, m0, m1, m2, m3, k0⟩ := HS.out _ hSw; go_simp; try with_reducible rfl)
            try simp only [Act.put, List.setIfInBounds_toArray, List.set_cons_zero, List.set_cons_succ, List.getElem_toArray, List.getElem_cons_succ, List.getElem_cons_zero]
            refine wpAnyH_take (i := 51) (v := ?vv80) rfl (by kernel_rfl) (by kernel_rfl) (by kernel_rfl) (fun _ _ _ h => h) (Or.inl ⟨by rfl, ?hy80⟩) hHeld ?rr80
            case hy80 => (intro w' hSw; obtain ⟨g1, v0, v1, v2, v3, m0, m1, m2, m3, k0⟩ := HS.out _ hSw; go_simp; try with_reducible rfl)
            try simp only [Act.put, List.setIfInBounds_toArray, List.set_cons_zero, List.set_cons_succ, List.getElem_toArray, List.getElem_cons_succ, List.getElem_cons_zero]
            refine wpAnyH_take (i := 52) (v := ?vv81) rfl (by kernel_rfl) (by kernel_rfl) (by kernel_rfl) (fun _ _ _ h => h) (Or.inl ⟨by rfl, ?hy81⟩) hHeld ?rr81
            case hy81 => (intro w' hSw; obtain ⟨g1, v0, v1, v2, v3, m0, m1, m2, m3, k0⟩ := HS.out _ hSw; go_simp; try with_reducible rfl)
            try simp only [Act.put, List.setIfInBounds_toArray, List.set_cons_zero, List.set_cons_succ, List.getElem_toArray, List.getElem_cons_succ, List.getElem_cons_zero]
            refine wpAnyH_take (i := 53) (v := ?vv82) rfl (by kernel_rfl) (by kernel_rfl) (by kernel_rfl) (fun _ _ _ h => h) (Or.inl ⟨by rfl, ?hy82⟩) hHeld ?rr82
            case hy82 => (intro w' hSw; obtain ⟨g1, v0, v1, v2, v3, m0, m1, m2, m3, k0⟩ := HS.out _ hSw; go_simp; try with_reducible rfl)
            try simp only [Act.put, List.setIfInBounds_toArray, List.set_cons_zero, List.set_cons_succ, List.getElem_toArray, List.getElem_cons_succ, List.getElem_cons_zero]
            refine wpAnyH_take (i := 54) (v := ?vv83) rfl (by kernel_rfl) (by kernel_rfl) (by kernel_rfl) (fun _ _ _ h => h) (Or.inl ⟨by rfl, ?hy83⟩) hHeld ?rr83
            case hy83 => (intro w' hSw; obtain ⟨g1, v0, v1, v2, v3, m0, m1, m2, m3, k0⟩ := HS.out _ hSw; go_simp; try with_reducible rfl)
            try simp only [Act.put, List.setIfInBounds_toArray, List.set_cons_zero, List.set_cons_succ, List.getElem_toArray, List.getElem_cons_succ, List.getElem_cons_zero]
            refine wpAnyH_take (i := 55) (v := ?vv84) rfl (by kernel_rfl) (by kernel_rfl) (by kernel_rfl) (fun _ _ _ h => h) (Or.inl ⟨by rfl, ?hy84⟩) hHeld ?rr84
            case hy84 => (intro w' hSw; obtain ⟨g1, v0, v1, v2, v3, m0, m1, m2, m3, k0⟩ := HS.out _ hSw; go_simp; try with_reducible rfl)
            try simp only [Act.put, List.setIfInBounds_toArray, List.set_cons_zero, List.set_cons_succ, List.getElem_toArray, List.getElem_cons_succ, List.getElem_cons_zero]
            refine wpAnyH_take (i := 56) (v := ?vv85) rfl (by kernel_rfl) (by kernel_rfl) (by kernel_rfl) (fun _ _ _ h => h) (Or.inl ⟨by rfl, ?hy85⟩) hHeld ?rr85
            case hy85 => (intro w' hSw; obtain ⟨g1, v0, v1, v2, v3, m0, m1, m2, m3, k0⟩ := HS.out _ hSw; go_simp; try with_reducible rfl)
            try simp only [Act.put, List.setIfInBounds_toArray, List.set_cons_zero, List.set_cons_succ, List.getElem_toArray, List.getElem_cons_succ, List.getElem_cons_zero]
            refine wpAnyH_take (i := 57) (v := ?vv86) rfl (by kernel_rfl) (by kernel_rfl) (by kernel_rfl) (fun _ _ _ h => h) (Or.inl ⟨by rfl, ?hy86⟩) hHeld ?rr86
            case hy86 => (intro w' hSw; obtain ⟨g1, v0, v1, v2, v3, m0, m1, m2, m3, k0⟩ := HS.out _ hSw; go_simp; try with_reducible rfl)
            try simp only [Act.put, List.setIfInBounds_toArray, List.set_cons_zero, List.set_cons_succ, List.getElem_toArray, List.getElem_cons_succ, List.getElem_cons_zero]
            refine wpAnyH_take (i := 58) (v := ?vv87) rfl (by kernel_rfl) (by kernel_rfl) (by kernel_rfl) (fun _ _ _ h => h) (Or.inl ⟨by rfl, ?hy87⟩) hHeld ?rr87
            case hy87 => (intro w' hSw; obtain ⟨g1, v0, v1, v2, v3, m0, m1, m2, m3, k0⟩ := HS.out _ hSw; go_simp; try with_reducible rfl)
            try simp only [Act.put, List.setIfInBounds_toArray, List.set_cons_zero, List.set_cons_succ, List.getElem_toArray, List.getElem_cons_succ, List.getElem_cons_zero]
            refine wpAnyH_take (i := 59) (v := ?vv88) rfl (by kernel_rfl) (by kernel_rfl) (by kernel_rfl) (fun _ _ _ h => h) (Or.inl ⟨by rfl, ?hy88⟩) hHeld ?rr88
            case hy88 => (intro w' hSw; obtain ⟨g1, v0, v1, v2, v3, m0, m1, m2, m3, k0⟩ := HS.out _ hSw; go_simp; try with_reducible rfl)
            try simp only [Act.put, List.setIfInBounds_toArray, List.set_cons_zero, List.set_cons_succ, List.getElem_toArray, List.getElem_cons_succ, List.getElem_cons_zero]
            refine wpAnyH_take (i := 60) (v := ?vv89) rfl (by kernel_rfl) (by kernel_rfl) (by kernel_rfl) (fun _ _ _ h => h) (Or.inl ⟨by rfl, ?hy89⟩) hHeld ?rr89
            case hy89 => (intro w' hSw; obtain ⟨g1, v0, v1, v2, v3, m0, m1, m2, m3, k0⟩ := HS.out _ hSw; go_simp; try with_reducible rfl)
            try simp only [Act.put, List.setIfInBounds_toArray, List.set_cons_zero, List.set_cons_succ, List.getElem_toArray, List.getElem_cons_succ, List.getElem_cons_zero]
            refine wpAnyH_take (i := 61) (v := ?vv90) rfl (by kernel_rfl) (by kernel_rfl) (by kernel_rfl) (fun _ _ _ h => h) (Or.inl ⟨by rfl, ?hy90⟩) hHeld ?rr90
            case hy90 => (intro w' hSw; obtain ⟨g1, v0, v1, v2, v3, m0, m1, m2, m3, k0⟩ := HS.out _ hSw; go_simp; try with_reducible rfl)
            try simp only [Act.put, List.setIfInBounds_toArray, List.set_cons_zero, List.set_cons_succ, List.getElem_toArray, List.getElem_cons_succ, List.getElem_cons_zero]
            refine wpAnyH_take (i := 62) (v := ?vv91) rfl (by kernel_rfl) (by kernel_rfl) (by kernel_rfl) (fun _ _ _ h => h) (Or.inl ⟨by rfl, ?hy91⟩) hHeld ?rr91
            case hy91 => (intro w' hSw; obtain ⟨g1, v0, v1, v2, v3, m0, m1, m2, m3, k0⟩ := HS.out _ hSw; go_simp; try with_reducible rfl)
            try simp only [Act.put, List.setIfInBounds_toArray, List.set_cons_zero, List.set_cons_succ, List.getElem_toArray, List.getElem_cons_succ, List.getElem_cons_zero]
            refine wpAnyH_take (i := 63) (v := ?vv92) rfl (by kernel_rfl) (by kernel_rfl) (by kernel_rfl) (fun _ _ _ h => h) (Or.inl ⟨by rfl, ?hy92⟩) hHeld ?rr92
            case hy92 => (intro w' hSw; obtain ⟨g1, v0, v1, v2, v3, m0, m1, m2, m3, k0⟩ := HS.out _ hSw; go_simp; try with_reducible rfl)
            try simp only [Act.put, List.setIfInBounds_toArray, List.set_cons_zero, List.set_cons_succ, List.getElem_toArray, List.getElem_cons_succ, List.getElem_cons_zero]
            refine wpAnyH_take (i := 64) (v := ?vv93) rfl (by kernel_rfl) (by kernel_rfl) (by kernel_rfl) (fun _ _ _ h => h) (Or.inl ⟨by rfl, ?hy93⟩) hHeld ?rr93
            case hy93 => (intro w' hSw; obtain ⟨g1, v0, v1, v2, v3, m0, m1, m2, m3, k0⟩ := HS.out _ hSw; go_simp; try with_reducible rfl)
            try simp only [Act.put, List.setIfInBounds_toArray, List.set_cons_zero, List.set_cons_succ, List.getElem_toArray, List.getElem_cons_succ, List.getElem_cons_zero]
            refine wpAnyH_take (i := 65) (v := ?vv94) rfl (by kernel_rfl) (by kernel_rfl) (by kernel_rfl) (fun _ _ _ h => h) (Or.inl ⟨by rfl, ?hy94⟩) hHeld ?rr94
            case hy94 => (intro w' hSw; obtain ⟨g1, v0, v1, v2, v3, m0, m1, m2, m3, k0⟩ := HS.out _ hSw; go_simp; try with_reducible rfl)
            try simp only [Act.put, List.setIfInBounds_toArray, List.set_cons_zero, List.set_cons_succ, List.getElem_toArray, List.getElem_cons_succ, List.getElem_cons_zero]
            refine wpAnyH_take (i := 66) (v := ?vv95) rfl (by kernel_rfl) (by kernel_rfl) (by kernel_rfl) (fun _ _ _ h => h) (Or.inl ⟨by rfl, ?hy95⟩) hHeld ?rr95
            case hy95 => (intro w' hSw; obtain ⟨g1, v0, v1, v2, v3, m0, m1, m2, m3, k0⟩ := HS.out _ hSw; go_simp; try with_reducible rfl)
            try simp only [Act.put, List.setIfInBounds_toArray, List.set_cons_zero, List.set_cons_succ, List.getElem_toArray, List.getElem_cons_succ, List.getElem_cons_zero]
            refine wpAnyH_take (i := 67) (v := ?vv96) rfl (by kernel_rfl) (by kernel_rfl) (by kernel_rfl) (fun _ _ _ h => h) (Or.inl ⟨by rfl, ?hy96⟩) hHeld ?rr96
            case hy96 => (intro w' hSw; obtain ⟨g1, v0, v1, v2, v3, m0, m1, m2, m3, k0⟩ := HS.out _ hSw; go_simp; try with_reducible rfl)
            try simp only [Act.put, List.setIfInBounds_toArray, List.set_cons_zero, List.set_cons_succ, List.getElem_toArray, List.getElem_cons_succ, List.getElem_cons_zero]
            refine wpAnyH_done (by kernel_rfl) ?_ _
            clear hHeld
            have H06 := Lib.hid (HB3.out.trans (H36.out.mono HB3.out.size))
            go_wp2
            go_roundw
            case rel => exact ⟨k + 1, s', b0, L', by omega, by omega, by go_num, Lib.hid (HBu.out.later H06.out), Lib.hid (HB.out.trans (H06.out.mono HB.out.size))⟩
            case measure => simp [intOf]; omega
        · have hno : ∀ r ∈ L', r.key ≠ ⟨j, oc, ho⟩ := fun r hr e => hin ⟨r, hr, e⟩
          have HGe := Lib.hid (hx.get_miss HKf.out hno)
          have HFI : Hid (∀ idx, FindIs L' ⟨j, oc, ho⟩ idx → idx = -1) := Lib.hid (fun idx hf => by
            rcases hf with ⟨h, _⟩ | ⟨i, hi, rfl, e⟩
            · exact h
            · exact absurd e (hno _ (List.getElem_mem hi)))
          by_cases hem : L' = []
          · have HNx := Lib.hid (fun V (hV : Below wc.heap.size wc V) => (show Calls Try.prog 19 #[.pointer (some ⟨x, 0, none⟩)] V fun e w' => e = .returned (.tuple #[.int .i64 0, .bool false]) ∧ Below V.heap.size V w' by
              have h := (hx.later hV).next
              rw [hem] at h
              exact h))
            have hz1 : decide ((0 : Int) < (L'.length : Int)) = false := by rw [hem]; rfl
            have hz2 : decide (0 < L'.length) = false := by rw [hem]; rfl
            clear hx hokL hin hno hem
            as_aux_lemma =>
              go_wp2_with (first
                | (go_at_call 17; refine Calls.mono (by with_reducible exact HGe.out) ?_; rintro e1 w1 ⟨rfl, hb⟩; have HB1 := Lib.hid (hb.alloc hb.size (.cells #[.string ⟨#[]⟩, .int .i64 0, .int .i64 0, .int .i64 0] 41)); obtain ⟨q1, _⟩ := cells_of_heap (HKb.out _ HB1.out); clear d1 d2 d3 hb; have d1 := q1 1; have d2 := q1 2; have d3 := q1 3; clear q1)
                | (go_at_call 18; refine Calls.mono (by with_reducible exact HFd.out _ HB1.out) ?_; rintro e2 w2 ⟨idx, rfl, hf, hb⟩; have hi0 := HFI.out idx hf; subst hi0; have HG2 := Lib.hid (kept_new hb); have HB2 := Lib.hid (HB1.out.trans (hb.mono HB1.out.size)); clear hf hb d1 d2 d3)
                | (go_at_call 19; refine Calls.mono (by with_reducible exact HNx.out _ HB2.out) ?_; rintro e3 w3 ⟨rfl, hb⟩; have HB3 := Lib.hid (HB2.out.trans (hb.mono HB2.out.size)); obtain ⟨q1, _⟩ := cells_of_heap ((hb.block _ (heap_lt HG2.out)).trans HG2.out); have v0 := q1 0; have v1 := q1 1; have v2 := q1 2; have v3 := q1 3; have cy3 := HYc.out _ HB3.out; skip; clear q1 hb))
              have HS : Hid (∀ V, Below w3.heap.size w3 V → V.cell? ⟨y, 1, none⟩ = some (.slice Ay L'.length cy)) := Lib.hid (fun V hV => have hV2 := HB3.out.trans (hV.mono HB3.out.size); HYc.out _ hV2)
              have hws : IntKind.i64.wrap (slots - (L'.length : Int)) = slots - (L'.length : Int) := IntWalk.i64_in _ ⟨by omega, by omega⟩
              simp only [List.append]
              refine wp_region_held_drew (S := (fun V => Below w3.heap.size w3 V)) (by kernel_rfl) (Below.refl _ _).drew (fun hHeld => ?_)
              refine wpAnyH_take (i := 0) (v := ?vv162) rfl (by kernel_rfl) (by kernel_rfl) (by kernel_rfl) (fun _ _ _ h => h) (Or.inl ⟨by rfl, ?hy162⟩) hHeld ?rr162
              case hy162 => (intro w' hSw; have g1 := HS.out _ hSw; go_simp; try with_reducible rfl)
              try simp only [Act.put, List.setIfInBounds_toArray, List.set_cons_zero, List.set_cons_succ, List.getElem_toArray, List.getElem_cons_succ, List.getElem_cons_zero]
              refine wpAnyH_take (i := 1) (v := ?vv163) rfl (by kernel_rfl) (by kernel_rfl) (by kernel_rfl) (fun _ _ _ h => h) (Or.inl ⟨by rfl, ?hy163⟩) hHeld ?rr163
              case hy163 => (intro w' hSw; have g1 := HS.out _ hSw; go_simp; try with_reducible rfl)
              try simp only [Act.put, List.setIfInBounds_toArray, List.set_cons_zero, List.set_cons_succ, List.getElem_toArray, List.getElem_cons_succ, List.getElem_cons_zero]
              refine wpAnyH_take (i := 2) (v := ?vv164) rfl (by kernel_rfl) (by kernel_rfl) (by kernel_rfl) (fun _ _ _ h => h) (Or.inl ⟨by rfl, ?hy164⟩) hHeld ?rr164
              case hy164 => (intro w' hSw; have g1 := HS.out _ hSw; go_simp; try with_reducible rfl)
              try simp only [Act.put, List.setIfInBounds_toArray, List.set_cons_zero, List.set_cons_succ, List.getElem_toArray, List.getElem_cons_succ, List.getElem_cons_zero]
              refine wpAnyH_take (i := 3) (v := ?vv165) rfl (by kernel_rfl) (by kernel_rfl) (by kernel_rfl) (fun _ _ _ h => h) (Or.inl ⟨by rfl, ?hy165⟩) hHeld ?rr165
              case hy165 => (intro w' hSw; have g1 := HS.out _ hSw; go_simp; try with_reducible rfl)
              try simp only [Act.put, List.setIfInBounds_toArray, List.set_cons_zero, List.set_cons_succ, List.getElem_toArray, List.getElem_cons_succ, List.getElem_cons_zero]
              refine wpAnyH_take (i := 4) (v := ?vv166) rfl (by kernel_rfl) (by kernel_rfl) (by kernel_rfl) (fun _ _ _ h => h) (Or.inl ⟨by rfl, ?hy166⟩) hHeld ?rr166
              case hy166 => (intro w' hSw; have g1 := HS.out _ hSw; go_simp; try with_reducible rfl)
              try simp only [Act.put, List.setIfInBounds_toArray, List.set_cons_zero, List.set_cons_succ, List.getElem_toArray, List.getElem_cons_succ, List.getElem_cons_zero]
              refine wpAnyH_take (i := 5) (v := ?vv167) rfl (by kernel_rfl) (by kernel_rfl) (by kernel_rfl) (fun _ _ _ h => h) (Or.inl ⟨by rfl, ?hy167⟩) hHeld ?rr167
              case hy167 => (intro w' hSw; have g1 := HS.out _ hSw; go_simp; try with_reducible rfl)
              try simp only [Act.put, List.setIfInBounds_toArray, List.set_cons_zero, List.set_cons_succ, List.getElem_toArray, List.getElem_cons_succ, List.getElem_cons_zero]
              refine wpAnyH_take (i := 6) (v := ?vv168) rfl (by kernel_rfl) (by kernel_rfl) (by kernel_rfl) (fun _ _ _ h => h) (Or.inl ⟨by rfl, ?hy168⟩) hHeld ?rr168
              case hy168 => (intro w' hSw; have g1 := HS.out _ hSw; go_simp; try with_reducible rfl)
              try simp only [Act.put, List.setIfInBounds_toArray, List.set_cons_zero, List.set_cons_succ, List.getElem_toArray, List.getElem_cons_succ, List.getElem_cons_zero]
              refine wpAnyH_take (i := 7) (v := ?vv169) rfl (by kernel_rfl) (by kernel_rfl) (by kernel_rfl) (fun _ _ _ h => h) (Or.inl ⟨by rfl, ?hy169⟩) hHeld ?rr169
              case hy169 => (intro w' hSw; have g1 := HS.out _ hSw; go_simp; try with_reducible rfl)
              try simp only [Act.put, List.setIfInBounds_toArray, List.set_cons_zero, List.set_cons_succ, List.getElem_toArray, List.getElem_cons_succ, List.getElem_cons_zero]
              refine wpAnyH_take (i := 8) (v := ?vv170) rfl (by kernel_rfl) (by kernel_rfl) (by kernel_rfl) (fun _ _ _ h => h) (Or.inl ⟨by rfl, ?hy170⟩) hHeld ?rr170
              case hy170 => (intro w' hSw; have g1 := HS.out _ hSw; go_simp; try with_reducible rfl)
              try simp only [Act.put, List.setIfInBounds_toArray, List.set_cons_zero, List.set_cons_succ, List.getElem_toArray, List.getElem_cons_succ, List.getElem_cons_zero]
              refine wpAnyH_take (i := 9) (v := ?vv171) rfl (by kernel_rfl) (by kernel_rfl) (by kernel_rfl) (fun _ _ _ h => h) (Or.inl ⟨by rfl, ?hy171⟩) hHeld ?rr171
              case hy171 => (intro w' hSw; have g1 := HS.out _ hSw; go_simp; try with_reducible rfl)
              try simp only [Act.put, List.setIfInBounds_toArray, List.set_cons_zero, List.set_cons_succ, List.getElem_toArray, List.getElem_cons_succ, List.getElem_cons_zero]
              refine wpAnyH_take (i := 10) (v := ?vv172) rfl (by kernel_rfl) (by kernel_rfl) (by kernel_rfl) (fun _ _ _ h => h) (Or.inl ⟨by rfl, ?hy172⟩) hHeld ?rr172
              case hy172 => (intro w' hSw; have g1 := HS.out _ hSw; go_simp; try with_reducible rfl)
              try simp only [Act.put, List.setIfInBounds_toArray, List.set_cons_zero, List.set_cons_succ, List.getElem_toArray, List.getElem_cons_succ, List.getElem_cons_zero]
              refine wpAnyH_take (i := 11) (v := undef) rfl (by kernel_rfl) (by kernel_rfl) (by kernel_rfl) (fun _ _ _ h => h) (Or.inr ⟨by rfl, rfl⟩) hHeld ?rr173
              try simp only [Act.put, List.setIfInBounds_toArray, List.set_cons_zero, List.set_cons_succ, List.getElem_toArray, List.getElem_cons_succ, List.getElem_cons_zero]
              refine wpAnyH_take (i := 12) (v := undef) rfl (by kernel_rfl) (by kernel_rfl) (by kernel_rfl) (fun _ _ _ h => h) (Or.inr ⟨by rfl, rfl⟩) hHeld ?rr174
              try simp only [Act.put, List.setIfInBounds_toArray, List.set_cons_zero, List.set_cons_succ, List.getElem_toArray, List.getElem_cons_succ, List.getElem_cons_zero]
              refine wpAnyH_take (i := 13) (v := undef) rfl (by kernel_rfl) (by kernel_rfl) (by kernel_rfl) (fun _ _ _ h => h) (Or.inr ⟨by rfl, rfl⟩) hHeld ?rr175
              try simp only [Act.put, List.setIfInBounds_toArray, List.set_cons_zero, List.set_cons_succ, List.getElem_toArray, List.getElem_cons_succ, List.getElem_cons_zero]
              refine wpAnyH_take (i := 14) (v := undef) rfl (by kernel_rfl) (by kernel_rfl) (by kernel_rfl) (fun _ _ _ h => h) (Or.inr ⟨by rfl, rfl⟩) hHeld ?rr176
              try simp only [Act.put, List.setIfInBounds_toArray, List.set_cons_zero, List.set_cons_succ, List.getElem_toArray, List.getElem_cons_succ, List.getElem_cons_zero]
              refine wpAnyH_take (i := 15) (v := undef) rfl (by kernel_rfl) (by kernel_rfl) (by kernel_rfl) (fun _ _ _ h => h) (Or.inr ⟨by rfl, rfl⟩) hHeld ?rr177
              try simp only [Act.put, List.setIfInBounds_toArray, List.set_cons_zero, List.set_cons_succ, List.getElem_toArray, List.getElem_cons_succ, List.getElem_cons_zero]
              refine wpAnyH_take (i := 16) (v := undef) rfl (by kernel_rfl) (by kernel_rfl) (by kernel_rfl) (fun _ _ _ h => h) (Or.inr ⟨by rfl, rfl⟩) hHeld ?rr178
              try simp only [Act.put, List.setIfInBounds_toArray, List.set_cons_zero, List.set_cons_succ, List.getElem_toArray, List.getElem_cons_succ, List.getElem_cons_zero]
              refine wpAnyH_take (i := 17) (v := undef) rfl (by kernel_rfl) (by kernel_rfl) (by kernel_rfl) (fun _ _ _ h => h) (Or.inr ⟨by rfl, rfl⟩) hHeld ?rr179
              try simp only [Act.put, List.setIfInBounds_toArray, List.set_cons_zero, List.set_cons_succ, List.getElem_toArray, List.getElem_cons_succ, List.getElem_cons_zero]
              refine wpAnyH_take (i := 18) (v := undef) rfl (by kernel_rfl) (by kernel_rfl) (by kernel_rfl) (fun _ _ _ h => h) (Or.inr ⟨by rfl, rfl⟩) hHeld ?rr180
              try simp only [Act.put, List.setIfInBounds_toArray, List.set_cons_zero, List.set_cons_succ, List.getElem_toArray, List.getElem_cons_succ, List.getElem_cons_zero]
              refine wpAnyH_take (i := 19) (v := undef) rfl (by kernel_rfl) (by kernel_rfl) (by kernel_rfl) (fun _ _ _ h => h) (Or.inr ⟨by rfl, rfl⟩) hHeld ?rr181
              try simp only [Act.put, List.setIfInBounds_toArray, List.set_cons_zero, List.set_cons_succ, List.getElem_toArray, List.getElem_cons_succ, List.getElem_cons_zero]
              refine wpAnyH_take (i := 20) (v := ?vv182) rfl (by kernel_rfl) (by kernel_rfl) (by kernel_rfl) (fun _ _ _ h => h) (Or.inl ⟨by rfl, ?hy182⟩) hHeld ?rr182
              case hy182 => (intro w' hSw; have g1 := HS.out _ hSw; go_simp; try with_reducible rfl)
              try simp only [Act.put, List.setIfInBounds_toArray, List.set_cons_zero, List.set_cons_succ, List.getElem_toArray, List.getElem_cons_succ, List.getElem_cons_zero]
              refine wpAnyH_take (i := 21) (v := ?vv183) rfl (by kernel_rfl) (by kernel_rfl) (by kernel_rfl) (fun _ _ _ h => h) (Or.inl ⟨by rfl, ?hy183⟩) hHeld ?rr183
              case hy183 => (intro w' hSw; have g1 := HS.out _ hSw; go_simp; try with_reducible rfl)
              try simp only [Act.put, List.setIfInBounds_toArray, List.set_cons_zero, List.set_cons_succ, List.getElem_toArray, List.getElem_cons_succ, List.getElem_cons_zero]
              refine wpAnyH_take (i := 22) (v := ?vv184) rfl (by kernel_rfl) (by kernel_rfl) (by kernel_rfl) (fun _ _ _ h => h) (Or.inl ⟨by rfl, ?hy184⟩) hHeld ?rr184
              case hy184 => (intro w' hSw; have g1 := HS.out _ hSw; go_simp; try with_reducible rfl)
              try simp only [Act.put, List.setIfInBounds_toArray, List.set_cons_zero, List.set_cons_succ, List.getElem_toArray, List.getElem_cons_succ, List.getElem_cons_zero]
              refine wpAnyH_take (i := 23) (v := ?vv185) rfl (by kernel_rfl) (by kernel_rfl) (by kernel_rfl) (fun _ _ _ h => h) (Or.inl ⟨by rfl, ?hy185⟩) hHeld ?rr185
              case hy185 => (intro w' hSw; have g1 := HS.out _ hSw; go_simp; try with_reducible rfl)
              try simp only [Act.put, List.setIfInBounds_toArray, List.set_cons_zero, List.set_cons_succ, List.getElem_toArray, List.getElem_cons_succ, List.getElem_cons_zero]
              refine wpAnyH_take (i := 25) (v := ?vv186) rfl (by kernel_rfl) (by kernel_rfl) (by kernel_rfl) (fun _ _ _ h => h) (Or.inl ⟨by rfl, ?hy186⟩) hHeld ?rr186
              case hy186 => (intro w' hSw; have g1 := HS.out _ hSw; go_simp; try with_reducible rfl)
              try simp only [Act.put, List.setIfInBounds_toArray, List.set_cons_zero, List.set_cons_succ, List.getElem_toArray, List.getElem_cons_succ, List.getElem_cons_zero]
              refine wpAnyH_take (i := 26) (v := ?vv187) rfl (by kernel_rfl) (by kernel_rfl) (by kernel_rfl) (fun _ _ _ h => h) (Or.inl ⟨by rfl, ?hy187⟩) hHeld ?rr187
              case hy187 => (intro w' hSw; have g1 := HS.out _ hSw; go_simp; try with_reducible rfl)
              try simp only [Act.put, List.setIfInBounds_toArray, List.set_cons_zero, List.set_cons_succ, List.getElem_toArray, List.getElem_cons_succ, List.getElem_cons_zero]
              refine wpAnyH_take (i := 27) (v := ?vv188) rfl (by kernel_rfl) (by kernel_rfl) (by kernel_rfl) (fun _ _ _ h => h) (Or.inl ⟨by rfl, ?hy188⟩) hHeld ?rr188
              case hy188 => (intro w' hSw; have g1 := HS.out _ hSw; go_simp; try with_reducible rfl)
              try simp only [Act.put, List.setIfInBounds_toArray, List.set_cons_zero, List.set_cons_succ, List.getElem_toArray, List.getElem_cons_succ, List.getElem_cons_zero]
              refine wpAnyH_take (i := 28) (v := ?vv189) rfl (by kernel_rfl) (by kernel_rfl) (by kernel_rfl) (fun _ _ _ h => h) (Or.inl ⟨by rfl, ?hy189⟩) hHeld ?rr189
              case hy189 => (intro w' hSw; have g1 := HS.out _ hSw; go_simp; try with_reducible rfl)
              try simp only [Act.put, List.setIfInBounds_toArray, List.set_cons_zero, List.set_cons_succ, List.getElem_toArray, List.getElem_cons_succ, List.getElem_cons_zero]
              refine wpAnyH_ready (rs := [24]) (by kernel_rfl) (by simp) ?_
              refine AllReadyH.cons rfl (fun K hK => ?_) AllReadyH.nil
              try rw [if_pos (by rfl)]
              go_simp
              go_at_call 20
              refine Calls.mono (by with_reducible exact HAl.out _ HB3.out.drew) ?_
              rintro e4 w4 ⟨A4, c4, rfl, ho4, hb⟩
              have H34 : Hid (Below w3.heap.size w3 w4) := Lib.hid ((Below.refl w3.heap.size w3).drew.trans hb)
              have HSm4 := Lib.hid (HSm.out _ A4 c4 _ (HB3.out.trans (H34.out.mono HB3.out.size)) ho4)
              clear ho4 hb
              go_wp2_with fail
              refine hK.out _ _ H34.out (fun hHeld2 => ?_)
              clear hK K hHeld
              have hHeld := hHeld2
              clear hHeld2
              try simp only [Act.put, List.setIfInBounds_toArray, List.set_cons_zero, List.set_cons_succ, List.getElem_toArray, List.getElem_cons_succ, List.getElem_cons_zero]
              refine wpAnyH_ready (rs := [29]) (by kernel_rfl) (by simp) ?_
              refine AllReadyH.cons rfl (fun K hK => ?_) AllReadyH.nil
              try rw [if_pos (by rfl)]
              go_simp
              go_at_call 14
              refine Calls.mono (by with_reducible exact HSm4.out) ?_
              rintro e5 w5 ⟨rfl, hb⟩
              have H35 : Hid (Below w3.heap.size w3 w5) := Lib.hid (H34.out.trans (hb.mono H34.out.size))
              clear hb
              go_wp2_with fail
              refine hK.out _ _ H35.out (fun hHeld2 => ?_)
              clear hK K hHeld
              have hHeld := hHeld2
              clear hHeld2
              try simp only [Act.put, List.setIfInBounds_toArray, List.set_cons_zero, List.set_cons_succ, List.getElem_toArray, List.getElem_cons_succ, List.getElem_cons_zero]
              refine wpAnyH_take (i := 30) (v := ?vv190) rfl (by kernel_rfl) (by kernel_rfl) (by kernel_rfl) (fun _ _ _ h => h) (Or.inl ⟨by rfl, ?hy190⟩) hHeld ?rr190
              case hy190 => (intro w' hSw; have g1 := HS.out _ hSw; go_simp; try with_reducible rfl)
              try simp only [Act.put, List.setIfInBounds_toArray, List.set_cons_zero, List.set_cons_succ, List.getElem_toArray, List.getElem_cons_succ, List.getElem_cons_zero]
              refine wpAnyH_take (i := 31) (v := ?vv191) rfl (by kernel_rfl) (by kernel_rfl) (by kernel_rfl) (fun _ _ _ h => h) (Or.inl ⟨by rfl, ?hy191⟩) hHeld ?rr191
              case hy191 => (intro w' hSw; have g1 := HS.out _ hSw; go_simp; try with_reducible rfl)
              try simp only [Act.put, List.setIfInBounds_toArray, List.set_cons_zero, List.set_cons_succ, List.getElem_toArray, List.getElem_cons_succ, List.getElem_cons_zero]
              refine wpAnyH_take (i := 32) (v := ?vv192) rfl (by kernel_rfl) (by kernel_rfl) (by kernel_rfl) (fun _ _ _ h => h) (Or.inl ⟨by rfl, ?hy192⟩) hHeld ?rr192
              case hy192 => (intro w' hSw; have g1 := HS.out _ hSw; go_simp; try with_reducible rfl)
              try simp only [Act.put, List.setIfInBounds_toArray, List.set_cons_zero, List.set_cons_succ, List.getElem_toArray, List.getElem_cons_succ, List.getElem_cons_zero]
              refine wpAnyH_take (i := 33) (v := ?vv193) rfl (by kernel_rfl) (by kernel_rfl) (by kernel_rfl) (fun _ _ _ h => h) (Or.inl ⟨by rfl, ?hy193⟩) hHeld ?rr193
              case hy193 => (intro w' hSw; have g1 := HS.out _ hSw; go_simp; try with_reducible rfl)
              try simp only [Act.put, List.setIfInBounds_toArray, List.set_cons_zero, List.set_cons_succ, List.getElem_toArray, List.getElem_cons_succ, List.getElem_cons_zero]
              refine wpAnyH_take (i := 35) (v := ?vv194) rfl (by kernel_rfl) (by kernel_rfl) (by kernel_rfl) (fun _ _ _ h => h) (Or.inl ⟨by rfl, ?hy194⟩) hHeld ?rr194
              case hy194 => (intro w' hSw; have g1 := HS.out _ hSw; go_simp; try with_reducible rfl)
              try simp only [Act.put, List.setIfInBounds_toArray, List.set_cons_zero, List.set_cons_succ, List.getElem_toArray, List.getElem_cons_succ, List.getElem_cons_zero]
              refine wpAnyH_take (i := 36) (v := ?vv195) rfl (by kernel_rfl) (by kernel_rfl) (by kernel_rfl) (fun _ _ _ h => h) (Or.inl ⟨by rfl, ?hy195⟩) hHeld ?rr195
              case hy195 => (intro w' hSw; have g1 := HS.out _ hSw; go_simp; try with_reducible rfl)
              try simp only [Act.put, List.setIfInBounds_toArray, List.set_cons_zero, List.set_cons_succ, List.getElem_toArray, List.getElem_cons_succ, List.getElem_cons_zero]
              refine wpAnyH_take (i := 37) (v := ?vv196) rfl (by kernel_rfl) (by kernel_rfl) (by kernel_rfl) (fun _ _ _ h => h) (Or.inl ⟨by rfl, ?hy196⟩) hHeld ?rr196
              case hy196 => (intro w' hSw; have g1 := HS.out _ hSw; go_simp; try with_reducible rfl)
              try simp only [Act.put, List.setIfInBounds_toArray, List.set_cons_zero, List.set_cons_succ, List.getElem_toArray, List.getElem_cons_succ, List.getElem_cons_zero]
              refine wpAnyH_take (i := 38) (v := ?vv197) rfl (by kernel_rfl) (by kernel_rfl) (by kernel_rfl) (fun _ _ _ h => h) (Or.inl ⟨by rfl, ?hy197⟩) hHeld ?rr197
              case hy197 => (intro w' hSw; have g1 := HS.out _ hSw; go_simp; try with_reducible rfl)
              try simp only [Act.put, List.setIfInBounds_toArray, List.set_cons_zero, List.set_cons_succ, List.getElem_toArray, List.getElem_cons_succ, List.getElem_cons_zero]
              refine wpAnyH_take (i := 39) (v := ?vv198) rfl (by kernel_rfl) (by kernel_rfl) (by kernel_rfl) (fun _ _ _ h => h) (Or.inl ⟨by rfl, ?hy198⟩) hHeld ?rr198
              case hy198 => (intro w' hSw; have g1 := HS.out _ hSw; go_simp; try with_reducible rfl)
              try simp only [Act.put, List.setIfInBounds_toArray, List.set_cons_zero, List.set_cons_succ, List.getElem_toArray, List.getElem_cons_succ, List.getElem_cons_zero]
              refine wpAnyH_take (i := 40) (v := ?vv199) rfl (by kernel_rfl) (by kernel_rfl) (by kernel_rfl) (fun _ _ _ h => h) (Or.inl ⟨by rfl, ?hy199⟩) hHeld ?rr199
              case hy199 => (intro w' hSw; have g1 := HS.out _ hSw; go_simp; try with_reducible rfl)
              try simp only [Act.put, List.setIfInBounds_toArray, List.set_cons_zero, List.set_cons_succ, List.getElem_toArray, List.getElem_cons_succ, List.getElem_cons_zero]
              refine wpAnyH_take (i := 41) (v := ?vv200) rfl (by kernel_rfl) (by kernel_rfl) (by kernel_rfl) (fun _ _ _ h => h) (Or.inl ⟨by rfl, ?hy200⟩) hHeld ?rr200
              case hy200 => (intro w' hSw; have g1 := HS.out _ hSw; go_simp; try with_reducible rfl)
              try simp only [Act.put, List.setIfInBounds_toArray, List.set_cons_zero, List.set_cons_succ, List.getElem_toArray, List.getElem_cons_succ, List.getElem_cons_zero]
              refine wpAnyH_ready (rs := [34]) (by kernel_rfl) (by simp) ?_
              refine AllReadyH.cons rfl (fun K hK => ?_) AllReadyH.nil
              try rw [if_pos (by rfl)]
              go_simp
              go_at_call 21
              refine Calls.mono (by with_reducible exact HFr.out _ (HB3.out.trans (H35.out.mono HB3.out.size))) ?_
              rintro e6 w6 ⟨rfl, hb⟩
              have H36 : Hid (Below w3.heap.size w3 w6) := Lib.hid (H35.out.trans (hb.mono H35.out.size))
              clear hb
              go_wp2_with fail
              refine hK.out _ _ H36.out (fun hHeld2 => ?_)
              clear hK K hHeld
              have hHeld := hHeld2
              clear hHeld2
              try simp only [Act.put, List.setIfInBounds_toArray, List.set_cons_zero, List.set_cons_succ, List.getElem_toArray, List.getElem_cons_succ, List.getElem_cons_zero]
              refine wpAnyH_take (i := 42) (v := ?vv201) rfl (by kernel_rfl) (by kernel_rfl) (by kernel_rfl) (fun _ _ _ h => h) (Or.inl ⟨by rfl, ?hy201⟩) hHeld ?rr201
              case hy201 => (intro w' hSw; have g1 := HS.out _ hSw; go_simp; try with_reducible rfl)
              try simp only [Act.put, List.setIfInBounds_toArray, List.set_cons_zero, List.set_cons_succ, List.getElem_toArray, List.getElem_cons_succ, List.getElem_cons_zero]
              refine wpAnyH_take (i := 43) (v := ?vv202) rfl (by kernel_rfl) (by kernel_rfl) (by kernel_rfl) (fun _ _ _ h => h) (Or.inl ⟨by rfl, ?hy202⟩) hHeld ?rr202
              case hy202 => (intro w' hSw; have g1 := HS.out _ hSw; go_simp; try with_reducible rfl)
              try simp only [Act.put, List.setIfInBounds_toArray, List.set_cons_zero, List.set_cons_succ, List.getElem_toArray, List.getElem_cons_succ, List.getElem_cons_zero]
              refine wpAnyH_take (i := 44) (v := ?vv203) rfl (by kernel_rfl) (by kernel_rfl) (by kernel_rfl) (fun _ _ _ h => h) (Or.inl ⟨by rfl, ?hy203⟩) hHeld ?rr203
              case hy203 => (intro w' hSw; have g1 := HS.out _ hSw; go_simp; try with_reducible rfl)
              try simp only [Act.put, List.setIfInBounds_toArray, List.set_cons_zero, List.set_cons_succ, List.getElem_toArray, List.getElem_cons_succ, List.getElem_cons_zero]
              refine wpAnyH_take (i := 45) (v := ?vv204) rfl (by kernel_rfl) (by kernel_rfl) (by kernel_rfl) (fun _ _ _ h => h) (Or.inl ⟨by rfl, ?hy204⟩) hHeld ?rr204
              case hy204 => (intro w' hSw; have g1 := HS.out _ hSw; go_simp; try with_reducible rfl)
              try simp only [Act.put, List.setIfInBounds_toArray, List.set_cons_zero, List.set_cons_succ, List.getElem_toArray, List.getElem_cons_succ, List.getElem_cons_zero]
              refine wpAnyH_take (i := 46) (v := ?vv205) rfl (by kernel_rfl) (by kernel_rfl) (by kernel_rfl) (fun _ _ _ h => h) (Or.inl ⟨by rfl, ?hy205⟩) hHeld ?rr205
              case hy205 => (intro w' hSw; have g1 := HS.out _ hSw; go_simp; try with_reducible rfl)
              try simp only [Act.put, List.setIfInBounds_toArray, List.set_cons_zero, List.set_cons_succ, List.getElem_toArray, List.getElem_cons_succ, List.getElem_cons_zero]
              refine wpAnyH_take (i := 47) (v := ?vv206) rfl (by kernel_rfl) (by kernel_rfl) (by kernel_rfl) (fun _ _ _ h => h) (Or.inl ⟨by rfl, ?hy206⟩) hHeld ?rr206
              case hy206 => (intro w' hSw; have g1 := HS.out _ hSw; go_simp; try with_reducible rfl)
              try simp only [Act.put, List.setIfInBounds_toArray, List.set_cons_zero, List.set_cons_succ, List.getElem_toArray, List.getElem_cons_succ, List.getElem_cons_zero]
              refine wpAnyH_take (i := 48) (v := ?vv207) rfl (by kernel_rfl) (by kernel_rfl) (by kernel_rfl) (fun _ _ _ h => h) (Or.inl ⟨by rfl, ?hy207⟩) hHeld ?rr207
              case hy207 => (intro w' hSw; have g1 := HS.out _ hSw; go_simp; try with_reducible rfl)
              try simp only [Act.put, List.setIfInBounds_toArray, List.set_cons_zero, List.set_cons_succ, List.getElem_toArray, List.getElem_cons_succ, List.getElem_cons_zero]
              refine wpAnyH_take (i := 49) (v := ?vv208) rfl (by kernel_rfl) (by kernel_rfl) (by kernel_rfl) (fun _ _ _ h => h) (Or.inl ⟨by rfl, ?hy208⟩) hHeld ?rr208
              case hy208 => (intro w' hSw; have g1 := HS.out _ hSw; go_simp; try with_reducible rfl)
              try simp only [Act.put, List.setIfInBounds_toArray, List.set_cons_zero, List.set_cons_succ, List.getElem_toArray, List.getElem_cons_succ, List.getElem_cons_zero]
              refine wpAnyH_take (i := 50) (v := ?vv209) rfl (by kernel_rfl) (by kernel_rfl) (by kernel_rfl) (fun _ _ _ h => h) (Or.inl ⟨by rfl, ?hy209⟩) hHeld ?rr209
              case hy209 => (intro w' hSw; have g1 := HS.out _ hSw; go_simp; try with_reducible rfl)
              try simp only [Act.put, List.setIfInBounds_toArray, List.set_cons_zero, List.set_cons_succ, List.getElem_toArray, List.getElem_cons_succ, List.getElem_cons_zero]
              refine wpAnyH_take (i := 51) (v := ?vv210) rfl (by kernel_rfl) (by kernel_rfl) (by kernel_rfl) (fun _ _ _ h => h) (Or.inl ⟨by rfl, ?hy210⟩) hHeld ?rr210
              case hy210 => (intro w' hSw; have g1 := HS.out _ hSw; go_simp; try with_reducible rfl)
              try simp only [Act.put, List.setIfInBounds_toArray, List.set_cons_zero, List.set_cons_succ, List.getElem_toArray, List.getElem_cons_succ, List.getElem_cons_zero]
              refine wpAnyH_take (i := 52) (v := ?vv211) rfl (by kernel_rfl) (by kernel_rfl) (by kernel_rfl) (fun _ _ _ h => h) (Or.inl ⟨by rfl, ?hy211⟩) hHeld ?rr211
              case hy211 => (intro w' hSw; have g1 := HS.out _ hSw; go_simp; try with_reducible rfl)
              try simp only [Act.put, List.setIfInBounds_toArray, List.set_cons_zero, List.set_cons_succ, List.getElem_toArray, List.getElem_cons_succ, List.getElem_cons_zero]
              refine wpAnyH_take (i := 53) (v := ?vv212) rfl (by kernel_rfl) (by kernel_rfl) (by kernel_rfl) (fun _ _ _ h => h) (Or.inl ⟨by rfl, ?hy212⟩) hHeld ?rr212
              case hy212 => (intro w' hSw; have g1 := HS.out _ hSw; go_simp; try with_reducible rfl)
              try simp only [Act.put, List.setIfInBounds_toArray, List.set_cons_zero, List.set_cons_succ, List.getElem_toArray, List.getElem_cons_succ, List.getElem_cons_zero]
              refine wpAnyH_take (i := 54) (v := ?vv213) rfl (by kernel_rfl) (by kernel_rfl) (by kernel_rfl) (fun _ _ _ h => h) (Or.inl ⟨by rfl, ?hy213⟩) hHeld ?rr213
              case hy213 => (intro w' hSw; have g1 := HS.out _ hSw; go_simp; try with_reducible rfl)
              try simp only [Act.put, List.setIfInBounds_toArray, List.set_cons_zero, List.set_cons_succ, List.getElem_toArray, List.getElem_cons_succ, List.getElem_cons_zero]
              refine wpAnyH_take (i := 55) (v := ?vv214) rfl (by kernel_rfl) (by kernel_rfl) (by kernel_rfl) (fun _ _ _ h => h) (Or.inl ⟨by rfl, ?hy214⟩) hHeld ?rr214
              case hy214 => (intro w' hSw; have g1 := HS.out _ hSw; go_simp; try with_reducible rfl)
              try simp only [Act.put, List.setIfInBounds_toArray, List.set_cons_zero, List.set_cons_succ, List.getElem_toArray, List.getElem_cons_succ, List.getElem_cons_zero]
              refine wpAnyH_take (i := 56) (v := ?vv215) rfl (by kernel_rfl) (by kernel_rfl) (by kernel_rfl) (fun _ _ _ h => h) (Or.inl ⟨by rfl, ?hy215⟩) hHeld ?rr215
              case hy215 => (intro w' hSw; have g1 := HS.out _ hSw; go_simp; try with_reducible rfl)
              try simp only [Act.put, List.setIfInBounds_toArray, List.set_cons_zero, List.set_cons_succ, List.getElem_toArray, List.getElem_cons_succ, List.getElem_cons_zero]
              refine wpAnyH_take (i := 57) (v := undef) rfl (by kernel_rfl) (by kernel_rfl) (by kernel_rfl) (fun _ _ _ h => h) (Or.inr ⟨by rfl, rfl⟩) hHeld ?rr216
              try simp only [Act.put, List.setIfInBounds_toArray, List.set_cons_zero, List.set_cons_succ, List.getElem_toArray, List.getElem_cons_succ, List.getElem_cons_zero]
              refine wpAnyH_take (i := 58) (v := undef) rfl (by kernel_rfl) (by kernel_rfl) (by kernel_rfl) (fun _ _ _ h => h) (Or.inr ⟨by rfl, rfl⟩) hHeld ?rr217
              try simp only [Act.put, List.setIfInBounds_toArray, List.set_cons_zero, List.set_cons_succ, List.getElem_toArray, List.getElem_cons_succ, List.getElem_cons_zero]
              refine wpAnyH_take (i := 59) (v := undef) rfl (by kernel_rfl) (by kernel_rfl) (by kernel_rfl) (fun _ _ _ h => h) (Or.inr ⟨by rfl, rfl⟩) hHeld ?rr218
              try simp only [Act.put, List.setIfInBounds_toArray, List.set_cons_zero, List.set_cons_succ, List.getElem_toArray, List.getElem_cons_succ, List.getElem_cons_zero]
              refine wpAnyH_take (i := 60) (v := undef) rfl (by kernel_rfl) (by kernel_rfl) (by kernel_rfl) (fun _ _ _ h => h) (Or.inr ⟨by rfl, rfl⟩) hHeld ?rr219
              try simp only [Act.put, List.setIfInBounds_toArray, List.set_cons_zero, List.set_cons_succ, List.getElem_toArray, List.getElem_cons_succ, List.getElem_cons_zero]
              refine wpAnyH_take (i := 61) (v := undef) rfl (by kernel_rfl) (by kernel_rfl) (by kernel_rfl) (fun _ _ _ h => h) (Or.inr ⟨by rfl, rfl⟩) hHeld ?rr220
              try simp only [Act.put, List.setIfInBounds_toArray, List.set_cons_zero, List.set_cons_succ, List.getElem_toArray, List.getElem_cons_succ, List.getElem_cons_zero]
              refine wpAnyH_take (i := 62) (v := undef) rfl (by kernel_rfl) (by kernel_rfl) (by kernel_rfl) (fun _ _ _ h => h) (Or.inr ⟨by rfl, rfl⟩) hHeld ?rr221
              try simp only [Act.put, List.setIfInBounds_toArray, List.set_cons_zero, List.set_cons_succ, List.getElem_toArray, List.getElem_cons_succ, List.getElem_cons_zero]
              refine wpAnyH_take (i := 63) (v := undef) rfl (by kernel_rfl) (by kernel_rfl) (by kernel_rfl) (fun _ _ _ h => h) (Or.inr ⟨by rfl, rfl⟩) hHeld ?rr222
              try simp only [Act.put, List.setIfInBounds_toArray, List.set_cons_zero, List.set_cons_succ, List.getElem_toArray, List.getElem_cons_succ, List.getElem_cons_zero]
              refine wpAnyH_take (i := 64) (v := undef) rfl (by kernel_rfl) (by kernel_rfl) (by kernel_rfl) (fun _ _ _ h => h) (Or.inr ⟨by rfl, rfl⟩) hHeld ?rr223
              try simp only [Act.put, List.setIfInBounds_toArray, List.set_cons_zero, List.set_cons_succ, List.getElem_toArray, List.getElem_cons_succ, List.getElem_cons_zero]
              refine wpAnyH_take (i := 65) (v := undef) rfl (by kernel_rfl) (by kernel_rfl) (by kernel_rfl) (fun _ _ _ h => h) (Or.inr ⟨by rfl, rfl⟩) hHeld ?rr224
              try simp only [Act.put, List.setIfInBounds_toArray, List.set_cons_zero, List.set_cons_succ, List.getElem_toArray, List.getElem_cons_succ, List.getElem_cons_zero]
              refine wpAnyH_take (i := 66) (v := ?vv225) rfl (by kernel_rfl) (by kernel_rfl) (by kernel_rfl) (fun _ _ _ h => h) (Or.inl ⟨by rfl, ?hy225⟩) hHeld ?rr225
              case hy225 => (intro w' hSw; have g1 := HS.out _ hSw; go_simp; try with_reducible rfl)
              try simp only [Act.put, List.setIfInBounds_toArray, List.set_cons_zero, List.set_cons_succ, List.getElem_toArray, List.getElem_cons_succ, List.getElem_cons_zero]
              refine wpAnyH_take (i := 67) (v := ?vv226) rfl (by kernel_rfl) (by kernel_rfl) (by kernel_rfl) (fun _ _ _ h => h) (Or.inl ⟨by rfl, ?hy226⟩) hHeld ?rr226
              case hy226 => (intro w' hSw; have g1 := HS.out _ hSw; go_simp; try with_reducible rfl)
              try simp only [Act.put, List.setIfInBounds_toArray, List.set_cons_zero, List.set_cons_succ, List.getElem_toArray, List.getElem_cons_succ, List.getElem_cons_zero]
              refine wpAnyH_done (by kernel_rfl) ?_ _
              clear hHeld
              have H06 := Lib.hid (HB3.out.trans (H36.out.mono HB3.out.size))
              go_wp2
              go_roundw
              case rel => exact ⟨k + 1, s', b0, L', by omega, by omega, by go_num, Lib.hid (HBu.out.later H06.out), Lib.hid (HB.out.trans (H06.out.mono HB.out.size))⟩
              case measure => simp [intOf]; omega
          · obtain ⟨r0, l0, hL0⟩ : ∃ r0 l0, L' = r0 :: l0 := by
              cases L' with
              | nil => exact absurd rfl hem
              | cons a l => exact ⟨a, l, rfl⟩
            have HNx := Lib.hid (fun V (hV : Below wc.heap.size wc V) => (show Calls Try.prog 19 #[.pointer (some ⟨x, 0, none⟩)] V fun e w' => e = .returned (.tuple #[.int .i64 r0.until_, .bool true]) ∧ Below V.heap.size V w' by
              have h := (hx.later hV).next
              rw [hL0] at h
              exact h))
            have HR0 := Lib.hid (fun V (hV : Below wc.heap.size wc V) => (show ∃ g, Ay = some ⟨g, 0, none⟩ ∧ V.cell? ⟨g, 3, none⟩ = some (.int .i64 r0.until_) by
              obtain ⟨g, e, hc⟩ := HRd.out V hV 0 (by rw [hL0]; simp)
              refine ⟨g, e, ?_⟩
              have h := hc 3 (by omega)
              simp only [Nat.zero_mul, Nat.zero_add] at h
              rw [h]
              simp [hL0, goC]))
            have hlen1 : 0 < L'.length := by rw [hL0]; simp
            have hlen2 : (0 : Int) < (L'.length : Int) := by omega
            obtain ⟨u0, hu0⟩ : ∃ u0, u0 = r0.until_ := ⟨_, rfl⟩
            rw [← hu0] at HNx HR0
            clear hL0 hu0 hx hokL hin hno hem
            as_aux_lemma =>
              go_wp2_with (first
                | (go_at_call 17; refine Calls.mono (by with_reducible exact HGe.out) ?_; rintro e1 w1 ⟨rfl, hb⟩; have HB1 := Lib.hid (hb.alloc hb.size (.cells #[.string ⟨#[]⟩, .int .i64 0, .int .i64 0, .int .i64 0] 41)); obtain ⟨q1, _⟩ := cells_of_heap (HKb.out _ HB1.out); clear d1 d2 d3 hb; have d1 := q1 1; have d2 := q1 2; have d3 := q1 3; clear q1)
                | (go_at_call 18; refine Calls.mono (by with_reducible exact HFd.out _ HB1.out) ?_; rintro e2 w2 ⟨idx, rfl, hf, hb⟩; have hi0 := HFI.out idx hf; subst hi0; have HG2 := Lib.hid (kept_new hb); have HB2 := Lib.hid (HB1.out.trans (hb.mono HB1.out.size)); clear hf hb d1 d2 d3)
                | (go_at_call 19; refine Calls.mono (by with_reducible exact HNx.out _ HB2.out) ?_; rintro e3 w3 ⟨rfl, hb⟩; have HB3 := Lib.hid (HB2.out.trans (hb.mono HB2.out.size)); obtain ⟨q1, _⟩ := cells_of_heap ((hb.block _ (heap_lt HG2.out)).trans HG2.out); have v0 := q1 0; have v1 := q1 1; have v2 := q1 2; have v3 := q1 3; have cy3 := HYc.out _ HB3.out; obtain ⟨g, hAy, k0⟩ := HR0.out _ HB3.out; subst hAy; clear q1 hb))
              have HS : Hid (∀ V, Below w3.heap.size w3 V → V.cell? ⟨y, 1, none⟩ = some (.slice (some ⟨g, 0, none⟩) L'.length cy) ∧ V.cell? ⟨g, 3, none⟩ = some (.int .i64 u0)) := Lib.hid (fun V hV => have hV2 := HB3.out.trans (hV.mono HB3.out.size); ⟨HYc.out _ hV2, cell_later hV k0⟩)
              have hws : IntKind.i64.wrap (slots - (L'.length : Int)) = slots - (L'.length : Int) := IntWalk.i64_in _ ⟨by omega, by omega⟩
              simp only [List.append]
              refine wp_region_held_drew (S := (fun V => Below w3.heap.size w3 V)) (by kernel_rfl) (Below.refl _ _).drew (fun hHeld => ?_)
              refine wpAnyH_take (i := 0) (v := ?vv97) rfl (by kernel_rfl) (by kernel_rfl) (by kernel_rfl) (fun _ _ _ h => h) (Or.inl ⟨by rfl, ?hy97⟩) hHeld ?rr97
              case hy97 => (intro w' hSw; obtain ⟨g1, k0⟩ := HS.out _ hSw; go_simp; try with_reducible rfl)
              try simp only [Act.put, List.setIfInBounds_toArray, List.set_cons_zero, List.set_cons_succ, List.getElem_toArray, List.getElem_cons_succ, List.getElem_cons_zero]
              refine wpAnyH_take (i := 1) (v := ?vv98) rfl (by kernel_rfl) (by kernel_rfl) (by kernel_rfl) (fun _ _ _ h => h) (Or.inl ⟨by rfl, ?hy98⟩) hHeld ?rr98
              case hy98 => (intro w' hSw; obtain ⟨g1, k0⟩ := HS.out _ hSw; go_simp; try with_reducible rfl)
              try simp only [Act.put, List.setIfInBounds_toArray, List.set_cons_zero, List.set_cons_succ, List.getElem_toArray, List.getElem_cons_succ, List.getElem_cons_zero]
              refine wpAnyH_take (i := 2) (v := ?vv99) rfl (by kernel_rfl) (by kernel_rfl) (by kernel_rfl) (fun _ _ _ h => h) (Or.inl ⟨by rfl, ?hy99⟩) hHeld ?rr99
              case hy99 => (intro w' hSw; obtain ⟨g1, k0⟩ := HS.out _ hSw; go_simp; try with_reducible rfl)
              try simp only [Act.put, List.setIfInBounds_toArray, List.set_cons_zero, List.set_cons_succ, List.getElem_toArray, List.getElem_cons_succ, List.getElem_cons_zero]
              refine wpAnyH_take (i := 3) (v := ?vv100) rfl (by kernel_rfl) (by kernel_rfl) (by kernel_rfl) (fun _ _ _ h => h) (Or.inl ⟨by rfl, ?hy100⟩) hHeld ?rr100
              case hy100 => (intro w' hSw; obtain ⟨g1, k0⟩ := HS.out _ hSw; go_simp; try with_reducible rfl)
              try simp only [Act.put, List.setIfInBounds_toArray, List.set_cons_zero, List.set_cons_succ, List.getElem_toArray, List.getElem_cons_succ, List.getElem_cons_zero]
              refine wpAnyH_take (i := 4) (v := ?vv101) rfl (by kernel_rfl) (by kernel_rfl) (by kernel_rfl) (fun _ _ _ h => h) (Or.inl ⟨by rfl, ?hy101⟩) hHeld ?rr101
              case hy101 => (intro w' hSw; obtain ⟨g1, k0⟩ := HS.out _ hSw; go_simp; try with_reducible rfl)
              try simp only [Act.put, List.setIfInBounds_toArray, List.set_cons_zero, List.set_cons_succ, List.getElem_toArray, List.getElem_cons_succ, List.getElem_cons_zero]
              refine wpAnyH_take (i := 5) (v := ?vv102) rfl (by kernel_rfl) (by kernel_rfl) (by kernel_rfl) (fun _ _ _ h => h) (Or.inl ⟨by rfl, ?hy102⟩) hHeld ?rr102
              case hy102 => (intro w' hSw; obtain ⟨g1, k0⟩ := HS.out _ hSw; go_simp; try with_reducible rfl)
              try simp only [Act.put, List.setIfInBounds_toArray, List.set_cons_zero, List.set_cons_succ, List.getElem_toArray, List.getElem_cons_succ, List.getElem_cons_zero]
              refine wpAnyH_take (i := 6) (v := ?vv103) rfl (by kernel_rfl) (by kernel_rfl) (by kernel_rfl) (fun _ _ _ h => h) (Or.inl ⟨by rfl, ?hy103⟩) hHeld ?rr103
              case hy103 => (intro w' hSw; obtain ⟨g1, k0⟩ := HS.out _ hSw; go_simp; try with_reducible rfl)
              try simp only [Act.put, List.setIfInBounds_toArray, List.set_cons_zero, List.set_cons_succ, List.getElem_toArray, List.getElem_cons_succ, List.getElem_cons_zero]
              refine wpAnyH_take (i := 7) (v := ?vv104) rfl (by kernel_rfl) (by kernel_rfl) (by kernel_rfl) (fun _ _ _ h => h) (Or.inl ⟨by rfl, ?hy104⟩) hHeld ?rr104
              case hy104 => (intro w' hSw; obtain ⟨g1, k0⟩ := HS.out _ hSw; go_simp; try with_reducible rfl)
              try simp only [Act.put, List.setIfInBounds_toArray, List.set_cons_zero, List.set_cons_succ, List.getElem_toArray, List.getElem_cons_succ, List.getElem_cons_zero]
              refine wpAnyH_take (i := 8) (v := ?vv105) rfl (by kernel_rfl) (by kernel_rfl) (by kernel_rfl) (fun _ _ _ h => h) (Or.inl ⟨by rfl, ?hy105⟩) hHeld ?rr105
              case hy105 => (intro w' hSw; obtain ⟨g1, k0⟩ := HS.out _ hSw; go_simp; try with_reducible rfl)
              try simp only [Act.put, List.setIfInBounds_toArray, List.set_cons_zero, List.set_cons_succ, List.getElem_toArray, List.getElem_cons_succ, List.getElem_cons_zero]
              refine wpAnyH_take (i := 9) (v := ?vv106) rfl (by kernel_rfl) (by kernel_rfl) (by kernel_rfl) (fun _ _ _ h => h) (Or.inl ⟨by rfl, ?hy106⟩) hHeld ?rr106
              case hy106 => (intro w' hSw; obtain ⟨g1, k0⟩ := HS.out _ hSw; go_simp; try with_reducible rfl)
              try simp only [Act.put, List.setIfInBounds_toArray, List.set_cons_zero, List.set_cons_succ, List.getElem_toArray, List.getElem_cons_succ, List.getElem_cons_zero]
              refine wpAnyH_take (i := 10) (v := ?vv107) rfl (by kernel_rfl) (by kernel_rfl) (by kernel_rfl) (fun _ _ _ h => h) (Or.inl ⟨by rfl, ?hy107⟩) hHeld ?rr107
              case hy107 => (intro w' hSw; obtain ⟨g1, k0⟩ := HS.out _ hSw; go_simp; try with_reducible rfl)
              try simp only [Act.put, List.setIfInBounds_toArray, List.set_cons_zero, List.set_cons_succ, List.getElem_toArray, List.getElem_cons_succ, List.getElem_cons_zero]
              refine wpAnyH_take (i := 11) (v := undef) rfl (by kernel_rfl) (by kernel_rfl) (by kernel_rfl) (fun _ _ _ h => h) (Or.inr ⟨by rfl, rfl⟩) hHeld ?rr108
              try simp only [Act.put, List.setIfInBounds_toArray, List.set_cons_zero, List.set_cons_succ, List.getElem_toArray, List.getElem_cons_succ, List.getElem_cons_zero]
              refine wpAnyH_take (i := 12) (v := undef) rfl (by kernel_rfl) (by kernel_rfl) (by kernel_rfl) (fun _ _ _ h => h) (Or.inr ⟨by rfl, rfl⟩) hHeld ?rr109
              try simp only [Act.put, List.setIfInBounds_toArray, List.set_cons_zero, List.set_cons_succ, List.getElem_toArray, List.getElem_cons_succ, List.getElem_cons_zero]
              refine wpAnyH_take (i := 13) (v := undef) rfl (by kernel_rfl) (by kernel_rfl) (by kernel_rfl) (fun _ _ _ h => h) (Or.inr ⟨by rfl, rfl⟩) hHeld ?rr110
              try simp only [Act.put, List.setIfInBounds_toArray, List.set_cons_zero, List.set_cons_succ, List.getElem_toArray, List.getElem_cons_succ, List.getElem_cons_zero]
              refine wpAnyH_take (i := 14) (v := undef) rfl (by kernel_rfl) (by kernel_rfl) (by kernel_rfl) (fun _ _ _ h => h) (Or.inr ⟨by rfl, rfl⟩) hHeld ?rr111
              try simp only [Act.put, List.setIfInBounds_toArray, List.set_cons_zero, List.set_cons_succ, List.getElem_toArray, List.getElem_cons_succ, List.getElem_cons_zero]
              refine wpAnyH_take (i := 15) (v := undef) rfl (by kernel_rfl) (by kernel_rfl) (by kernel_rfl) (fun _ _ _ h => h) (Or.inr ⟨by rfl, rfl⟩) hHeld ?rr112
              try simp only [Act.put, List.setIfInBounds_toArray, List.set_cons_zero, List.set_cons_succ, List.getElem_toArray, List.getElem_cons_succ, List.getElem_cons_zero]
              refine wpAnyH_take (i := 16) (v := undef) rfl (by kernel_rfl) (by kernel_rfl) (by kernel_rfl) (fun _ _ _ h => h) (Or.inr ⟨by rfl, rfl⟩) hHeld ?rr113
              try simp only [Act.put, List.setIfInBounds_toArray, List.set_cons_zero, List.set_cons_succ, List.getElem_toArray, List.getElem_cons_succ, List.getElem_cons_zero]
              refine wpAnyH_take (i := 17) (v := undef) rfl (by kernel_rfl) (by kernel_rfl) (by kernel_rfl) (fun _ _ _ h => h) (Or.inr ⟨by rfl, rfl⟩) hHeld ?rr114
              try simp only [Act.put, List.setIfInBounds_toArray, List.set_cons_zero, List.set_cons_succ, List.getElem_toArray, List.getElem_cons_succ, List.getElem_cons_zero]
              refine wpAnyH_take (i := 18) (v := undef) rfl (by kernel_rfl) (by kernel_rfl) (by kernel_rfl) (fun _ _ _ h => h) (Or.inr ⟨by rfl, rfl⟩) hHeld ?rr115
              try simp only [Act.put, List.setIfInBounds_toArray, List.set_cons_zero, List.set_cons_succ, List.getElem_toArray, List.getElem_cons_succ, List.getElem_cons_zero]
              refine wpAnyH_take (i := 19) (v := undef) rfl (by kernel_rfl) (by kernel_rfl) (by kernel_rfl) (fun _ _ _ h => h) (Or.inr ⟨by rfl, rfl⟩) hHeld ?rr116
              try simp only [Act.put, List.setIfInBounds_toArray, List.set_cons_zero, List.set_cons_succ, List.getElem_toArray, List.getElem_cons_succ, List.getElem_cons_zero]
              refine wpAnyH_take (i := 20) (v := ?vv117) rfl (by kernel_rfl) (by kernel_rfl) (by kernel_rfl) (fun _ _ _ h => h) (Or.inl ⟨by rfl, ?hy117⟩) hHeld ?rr117
              case hy117 => (intro w' hSw; obtain ⟨g1, k0⟩ := HS.out _ hSw; go_simp; try with_reducible rfl)
              try simp only [Act.put, List.setIfInBounds_toArray, List.set_cons_zero, List.set_cons_succ, List.getElem_toArray, List.getElem_cons_succ, List.getElem_cons_zero]
              refine wpAnyH_take (i := 21) (v := ?vv118) rfl (by kernel_rfl) (by kernel_rfl) (by kernel_rfl) (fun _ _ _ h => h) (Or.inl ⟨by rfl, ?hy118⟩) hHeld ?rr118
              case hy118 => (intro w' hSw; obtain ⟨g1, k0⟩ := HS.out _ hSw; go_simp; try with_reducible rfl)
              try simp only [Act.put, List.setIfInBounds_toArray, List.set_cons_zero, List.set_cons_succ, List.getElem_toArray, List.getElem_cons_succ, List.getElem_cons_zero]
              refine wpAnyH_take (i := 22) (v := ?vv119) rfl (by kernel_rfl) (by kernel_rfl) (by kernel_rfl) (fun _ _ _ h => h) (Or.inl ⟨by rfl, ?hy119⟩) hHeld ?rr119
              case hy119 => (intro w' hSw; obtain ⟨g1, k0⟩ := HS.out _ hSw; go_simp; try with_reducible rfl)
              try simp only [Act.put, List.setIfInBounds_toArray, List.set_cons_zero, List.set_cons_succ, List.getElem_toArray, List.getElem_cons_succ, List.getElem_cons_zero]
              refine wpAnyH_take (i := 23) (v := ?vv120) rfl (by kernel_rfl) (by kernel_rfl) (by kernel_rfl) (fun _ _ _ h => h) (Or.inl ⟨by rfl, ?hy120⟩) hHeld ?rr120
              case hy120 => (intro w' hSw; obtain ⟨g1, k0⟩ := HS.out _ hSw; go_simp; try with_reducible rfl)
              try simp only [Act.put, List.setIfInBounds_toArray, List.set_cons_zero, List.set_cons_succ, List.getElem_toArray, List.getElem_cons_succ, List.getElem_cons_zero]
              refine wpAnyH_take (i := 25) (v := ?vv121) rfl (by kernel_rfl) (by kernel_rfl) (by kernel_rfl) (fun _ _ _ h => h) (Or.inl ⟨by rfl, ?hy121⟩) hHeld ?rr121
              case hy121 => (intro w' hSw; obtain ⟨g1, k0⟩ := HS.out _ hSw; go_simp; try with_reducible rfl)
              try simp only [Act.put, List.setIfInBounds_toArray, List.set_cons_zero, List.set_cons_succ, List.getElem_toArray, List.getElem_cons_succ, List.getElem_cons_zero]
              refine wpAnyH_take (i := 26) (v := ?vv122) rfl (by kernel_rfl) (by kernel_rfl) (by kernel_rfl) (fun _ _ _ h => h) (Or.inl ⟨by rfl, ?hy122⟩) hHeld ?rr122
              case hy122 => (intro w' hSw; obtain ⟨g1, k0⟩ := HS.out _ hSw; go_simp; try with_reducible rfl)
              try simp only [Act.put, List.setIfInBounds_toArray, List.set_cons_zero, List.set_cons_succ, List.getElem_toArray, List.getElem_cons_succ, List.getElem_cons_zero]
              refine wpAnyH_take (i := 27) (v := ?vv123) rfl (by kernel_rfl) (by kernel_rfl) (by kernel_rfl) (fun _ _ _ h => h) (Or.inl ⟨by rfl, ?hy123⟩) hHeld ?rr123
              case hy123 => (intro w' hSw; obtain ⟨g1, k0⟩ := HS.out _ hSw; go_simp; try with_reducible rfl)
              try simp only [Act.put, List.setIfInBounds_toArray, List.set_cons_zero, List.set_cons_succ, List.getElem_toArray, List.getElem_cons_succ, List.getElem_cons_zero]
              refine wpAnyH_take (i := 28) (v := ?vv124) rfl (by kernel_rfl) (by kernel_rfl) (by kernel_rfl) (fun _ _ _ h => h) (Or.inl ⟨by rfl, ?hy124⟩) hHeld ?rr124
              case hy124 => (intro w' hSw; obtain ⟨g1, k0⟩ := HS.out _ hSw; go_simp; try with_reducible rfl)
              try simp only [Act.put, List.setIfInBounds_toArray, List.set_cons_zero, List.set_cons_succ, List.getElem_toArray, List.getElem_cons_succ, List.getElem_cons_zero]
              refine wpAnyH_ready (rs := [24]) (by kernel_rfl) (by simp) ?_
              refine AllReadyH.cons rfl (fun K hK => ?_) AllReadyH.nil
              try rw [if_pos (by rfl)]
              go_simp
              go_at_call 20
              refine Calls.mono (by with_reducible exact HAl.out _ HB3.out.drew) ?_
              rintro e4 w4 ⟨A4, c4, rfl, ho4, hb⟩
              have H34 : Hid (Below w3.heap.size w3 w4) := Lib.hid ((Below.refl w3.heap.size w3).drew.trans hb)
              have HSm4 := Lib.hid (HSm.out _ A4 c4 _ (HB3.out.trans (H34.out.mono HB3.out.size)) ho4)
              clear ho4 hb
              go_wp2_with fail
              refine hK.out _ _ H34.out (fun hHeld2 => ?_)
              clear hK K hHeld
              have hHeld := hHeld2
              clear hHeld2
              try simp only [Act.put, List.setIfInBounds_toArray, List.set_cons_zero, List.set_cons_succ, List.getElem_toArray, List.getElem_cons_succ, List.getElem_cons_zero]
              refine wpAnyH_ready (rs := [29]) (by kernel_rfl) (by simp) ?_
              refine AllReadyH.cons rfl (fun K hK => ?_) AllReadyH.nil
              try rw [if_pos (by rfl)]
              go_simp
              go_at_call 14
              refine Calls.mono (by with_reducible exact HSm4.out) ?_
              rintro e5 w5 ⟨rfl, hb⟩
              have H35 : Hid (Below w3.heap.size w3 w5) := Lib.hid (H34.out.trans (hb.mono H34.out.size))
              clear hb
              go_wp2_with fail
              refine hK.out _ _ H35.out (fun hHeld2 => ?_)
              clear hK K hHeld
              have hHeld := hHeld2
              clear hHeld2
              try simp only [Act.put, List.setIfInBounds_toArray, List.set_cons_zero, List.set_cons_succ, List.getElem_toArray, List.getElem_cons_succ, List.getElem_cons_zero]
              refine wpAnyH_take (i := 30) (v := ?vv125) rfl (by kernel_rfl) (by kernel_rfl) (by kernel_rfl) (fun _ _ _ h => h) (Or.inl ⟨by rfl, ?hy125⟩) hHeld ?rr125
              case hy125 => (intro w' hSw; obtain ⟨g1, k0⟩ := HS.out _ hSw; go_simp; try with_reducible rfl)
              try simp only [Act.put, List.setIfInBounds_toArray, List.set_cons_zero, List.set_cons_succ, List.getElem_toArray, List.getElem_cons_succ, List.getElem_cons_zero]
              refine wpAnyH_take (i := 31) (v := ?vv126) rfl (by kernel_rfl) (by kernel_rfl) (by kernel_rfl) (fun _ _ _ h => h) (Or.inl ⟨by rfl, ?hy126⟩) hHeld ?rr126
              case hy126 => (intro w' hSw; obtain ⟨g1, k0⟩ := HS.out _ hSw; go_simp; try with_reducible rfl)
              try simp only [Act.put, List.setIfInBounds_toArray, List.set_cons_zero, List.set_cons_succ, List.getElem_toArray, List.getElem_cons_succ, List.getElem_cons_zero]
              refine wpAnyH_take (i := 32) (v := ?vv127) rfl (by kernel_rfl) (by kernel_rfl) (by kernel_rfl) (fun _ _ _ h => h) (Or.inl ⟨by rfl, ?hy127⟩) hHeld ?rr127
              case hy127 => (intro w' hSw; obtain ⟨g1, k0⟩ := HS.out _ hSw; go_simp; try with_reducible rfl)
              try simp only [Act.put, List.setIfInBounds_toArray, List.set_cons_zero, List.set_cons_succ, List.getElem_toArray, List.getElem_cons_succ, List.getElem_cons_zero]
              refine wpAnyH_take (i := 33) (v := ?vv128) rfl (by kernel_rfl) (by kernel_rfl) (by kernel_rfl) (fun _ _ _ h => h) (Or.inl ⟨by rfl, ?hy128⟩) hHeld ?rr128
              case hy128 => (intro w' hSw; obtain ⟨g1, k0⟩ := HS.out _ hSw; go_simp; try with_reducible rfl)
              try simp only [Act.put, List.setIfInBounds_toArray, List.set_cons_zero, List.set_cons_succ, List.getElem_toArray, List.getElem_cons_succ, List.getElem_cons_zero]
              refine wpAnyH_take (i := 35) (v := ?vv129) rfl (by kernel_rfl) (by kernel_rfl) (by kernel_rfl) (fun _ _ _ h => h) (Or.inl ⟨by rfl, ?hy129⟩) hHeld ?rr129
              case hy129 => (intro w' hSw; obtain ⟨g1, k0⟩ := HS.out _ hSw; go_simp; try with_reducible rfl)
              try simp only [Act.put, List.setIfInBounds_toArray, List.set_cons_zero, List.set_cons_succ, List.getElem_toArray, List.getElem_cons_succ, List.getElem_cons_zero]
              refine wpAnyH_take (i := 36) (v := ?vv130) rfl (by kernel_rfl) (by kernel_rfl) (by kernel_rfl) (fun _ _ _ h => h) (Or.inl ⟨by rfl, ?hy130⟩) hHeld ?rr130
              case hy130 => (intro w' hSw; obtain ⟨g1, k0⟩ := HS.out _ hSw; go_simp; try with_reducible rfl)
              try simp only [Act.put, List.setIfInBounds_toArray, List.set_cons_zero, List.set_cons_succ, List.getElem_toArray, List.getElem_cons_succ, List.getElem_cons_zero]
              refine wpAnyH_take (i := 37) (v := ?vv131) rfl (by kernel_rfl) (by kernel_rfl) (by kernel_rfl) (fun _ _ _ h => h) (Or.inl ⟨by rfl, ?hy131⟩) hHeld ?rr131
              case hy131 => (intro w' hSw; obtain ⟨g1, k0⟩ := HS.out _ hSw; go_simp; try with_reducible rfl)
              try simp only [Act.put, List.setIfInBounds_toArray, List.set_cons_zero, List.set_cons_succ, List.getElem_toArray, List.getElem_cons_succ, List.getElem_cons_zero]
              refine wpAnyH_take (i := 38) (v := ?vv132) rfl (by kernel_rfl) (by kernel_rfl) (by kernel_rfl) (fun _ _ _ h => h) (Or.inl ⟨by rfl, ?hy132⟩) hHeld ?rr132
              case hy132 => (intro w' hSw; obtain ⟨g1, k0⟩ := HS.out _ hSw; go_simp; try with_reducible rfl)
              try simp only [Act.put, List.setIfInBounds_toArray, List.set_cons_zero, List.set_cons_succ, List.getElem_toArray, List.getElem_cons_succ, List.getElem_cons_zero]
              refine wpAnyH_take (i := 39) (v := ?vv133) rfl (by kernel_rfl) (by kernel_rfl) (by kernel_rfl) (fun _ _ _ h => h) (Or.inl ⟨by rfl, ?hy133⟩) hHeld ?rr133
              case hy133 => (intro w' hSw; obtain ⟨g1, k0⟩ := HS.out _ hSw; go_simp; try with_reducible rfl)
              try simp only [Act.put, List.setIfInBounds_toArray, List.set_cons_zero, List.set_cons_succ, List.getElem_toArray, List.getElem_cons_succ, List.getElem_cons_zero]
              refine wpAnyH_take (i := 40) (v := ?vv134) rfl (by kernel_rfl) (by kernel_rfl) (by kernel_rfl) (fun _ _ _ h => h) (Or.inl ⟨by rfl, ?hy134⟩) hHeld ?rr134
              case hy134 => (intro w' hSw; obtain ⟨g1, k0⟩ := HS.out _ hSw; go_simp; try with_reducible rfl)
              try simp only [Act.put, List.setIfInBounds_toArray, List.set_cons_zero, List.set_cons_succ, List.getElem_toArray, List.getElem_cons_succ, List.getElem_cons_zero]
              refine wpAnyH_take (i := 41) (v := ?vv135) rfl (by kernel_rfl) (by kernel_rfl) (by kernel_rfl) (fun _ _ _ h => h) (Or.inl ⟨by rfl, ?hy135⟩) hHeld ?rr135
              case hy135 => (intro w' hSw; obtain ⟨g1, k0⟩ := HS.out _ hSw; go_simp; try with_reducible rfl)
              try simp only [Act.put, List.setIfInBounds_toArray, List.set_cons_zero, List.set_cons_succ, List.getElem_toArray, List.getElem_cons_succ, List.getElem_cons_zero]
              refine wpAnyH_ready (rs := [34]) (by kernel_rfl) (by simp) ?_
              refine AllReadyH.cons rfl (fun K hK => ?_) AllReadyH.nil
              try rw [if_pos (by rfl)]
              go_simp
              go_at_call 21
              refine Calls.mono (by with_reducible exact HFr.out _ (HB3.out.trans (H35.out.mono HB3.out.size))) ?_
              rintro e6 w6 ⟨rfl, hb⟩
              have H36 : Hid (Below w3.heap.size w3 w6) := Lib.hid (H35.out.trans (hb.mono H35.out.size))
              clear hb
              go_wp2_with fail
              refine hK.out _ _ H36.out (fun hHeld2 => ?_)
              clear hK K hHeld
              have hHeld := hHeld2
              clear hHeld2
              try simp only [Act.put, List.setIfInBounds_toArray, List.set_cons_zero, List.set_cons_succ, List.getElem_toArray, List.getElem_cons_succ, List.getElem_cons_zero]
              refine wpAnyH_take (i := 42) (v := ?vv136) rfl (by kernel_rfl) (by kernel_rfl) (by kernel_rfl) (fun _ _ _ h => h) (Or.inl ⟨by rfl, ?hy136⟩) hHeld ?rr136
              case hy136 => (intro w' hSw; obtain ⟨g1, k0⟩ := HS.out _ hSw; go_simp; try with_reducible rfl)
              try simp only [Act.put, List.setIfInBounds_toArray, List.set_cons_zero, List.set_cons_succ, List.getElem_toArray, List.getElem_cons_succ, List.getElem_cons_zero]
              refine wpAnyH_take (i := 43) (v := ?vv137) rfl (by kernel_rfl) (by kernel_rfl) (by kernel_rfl) (fun _ _ _ h => h) (Or.inl ⟨by rfl, ?hy137⟩) hHeld ?rr137
              case hy137 => (intro w' hSw; obtain ⟨g1, k0⟩ := HS.out _ hSw; go_simp; try with_reducible rfl)
              try simp only [Act.put, List.setIfInBounds_toArray, List.set_cons_zero, List.set_cons_succ, List.getElem_toArray, List.getElem_cons_succ, List.getElem_cons_zero]
              refine wpAnyH_take (i := 44) (v := ?vv138) rfl (by kernel_rfl) (by kernel_rfl) (by kernel_rfl) (fun _ _ _ h => h) (Or.inl ⟨by rfl, ?hy138⟩) hHeld ?rr138
              case hy138 => (intro w' hSw; obtain ⟨g1, k0⟩ := HS.out _ hSw; go_simp; try with_reducible rfl)
              try simp only [Act.put, List.setIfInBounds_toArray, List.set_cons_zero, List.set_cons_succ, List.getElem_toArray, List.getElem_cons_succ, List.getElem_cons_zero]
              refine wpAnyH_take (i := 45) (v := ?vv139) rfl (by kernel_rfl) (by kernel_rfl) (by kernel_rfl) (fun _ _ _ h => h) (Or.inl ⟨by rfl, ?hy139⟩) hHeld ?rr139
              case hy139 => (intro w' hSw; obtain ⟨g1, k0⟩ := HS.out _ hSw; go_simp; try with_reducible rfl)
              try simp only [Act.put, List.setIfInBounds_toArray, List.set_cons_zero, List.set_cons_succ, List.getElem_toArray, List.getElem_cons_succ, List.getElem_cons_zero]
              refine wpAnyH_take (i := 46) (v := ?vv140) rfl (by kernel_rfl) (by kernel_rfl) (by kernel_rfl) (fun _ _ _ h => h) (Or.inl ⟨by rfl, ?hy140⟩) hHeld ?rr140
              case hy140 => (intro w' hSw; obtain ⟨g1, k0⟩ := HS.out _ hSw; go_simp; try with_reducible rfl)
              try simp only [Act.put, List.setIfInBounds_toArray, List.set_cons_zero, List.set_cons_succ, List.getElem_toArray, List.getElem_cons_succ, List.getElem_cons_zero]
              refine wpAnyH_take (i := 47) (v := ?vv141) rfl (by kernel_rfl) (by kernel_rfl) (by kernel_rfl) (fun _ _ _ h => h) (Or.inl ⟨by rfl, ?hy141⟩) hHeld ?rr141
              case hy141 => (intro w' hSw; obtain ⟨g1, k0⟩ := HS.out _ hSw; go_simp; try with_reducible rfl)
              try simp only [Act.put, List.setIfInBounds_toArray, List.set_cons_zero, List.set_cons_succ, List.getElem_toArray, List.getElem_cons_succ, List.getElem_cons_zero]
              refine wpAnyH_take (i := 48) (v := ?vv142) rfl (by kernel_rfl) (by kernel_rfl) (by kernel_rfl) (fun _ _ _ h => h) (Or.inl ⟨by rfl, ?hy142⟩) hHeld ?rr142
              case hy142 => (intro w' hSw; obtain ⟨g1, k0⟩ := HS.out _ hSw; go_simp; try with_reducible rfl)
              try simp only [Act.put, List.setIfInBounds_toArray, List.set_cons_zero, List.set_cons_succ, List.getElem_toArray, List.getElem_cons_succ, List.getElem_cons_zero]
              refine wpAnyH_take (i := 49) (v := ?vv143) rfl (by kernel_rfl) (by kernel_rfl) (by kernel_rfl) (fun _ _ _ h => h) (Or.inl ⟨by rfl, ?hy143⟩) hHeld ?rr143
              case hy143 => (intro w' hSw; obtain ⟨g1, k0⟩ := HS.out _ hSw; go_simp; try with_reducible rfl)
              try simp only [Act.put, List.setIfInBounds_toArray, List.set_cons_zero, List.set_cons_succ, List.getElem_toArray, List.getElem_cons_succ, List.getElem_cons_zero]
              refine wpAnyH_take (i := 50) (v := ?vv144) rfl (by kernel_rfl) (by kernel_rfl) (by kernel_rfl) (fun _ _ _ h => h) (Or.inl ⟨by rfl, ?hy144⟩) hHeld ?rr144
              case hy144 => (intro w' hSw; obtain ⟨g1, k0⟩ := HS.out _ hSw; go_simp; try with_reducible rfl)
              try simp only [Act.put, List.setIfInBounds_toArray, List.set_cons_zero, List.set_cons_succ, List.getElem_toArray, List.getElem_cons_succ, List.getElem_cons_zero]
              refine wpAnyH_take (i := 51) (v := ?vv145) rfl (by kernel_rfl) (by kernel_rfl) (by kernel_rfl) (fun _ _ _ h => h) (Or.inl ⟨by rfl, ?hy145⟩) hHeld ?rr145
              case hy145 => (intro w' hSw; obtain ⟨g1, k0⟩ := HS.out _ hSw; go_simp; try with_reducible rfl)
              try simp only [Act.put, List.setIfInBounds_toArray, List.set_cons_zero, List.set_cons_succ, List.getElem_toArray, List.getElem_cons_succ, List.getElem_cons_zero]
              refine wpAnyH_take (i := 52) (v := ?vv146) rfl (by kernel_rfl) (by kernel_rfl) (by kernel_rfl) (fun _ _ _ h => h) (Or.inl ⟨by rfl, ?hy146⟩) hHeld ?rr146
              case hy146 => (intro w' hSw; obtain ⟨g1, k0⟩ := HS.out _ hSw; go_simp; try with_reducible rfl)
              try simp only [Act.put, List.setIfInBounds_toArray, List.set_cons_zero, List.set_cons_succ, List.getElem_toArray, List.getElem_cons_succ, List.getElem_cons_zero]
              refine wpAnyH_take (i := 53) (v := ?vv147) rfl (by kernel_rfl) (by kernel_rfl) (by kernel_rfl) (fun _ _ _ h => h) (Or.inl ⟨by rfl, ?hy147⟩) hHeld ?rr147
              case hy147 => (intro w' hSw; obtain ⟨g1, k0⟩ := HS.out _ hSw; go_simp; try with_reducible rfl)
              try simp only [Act.put, List.setIfInBounds_toArray, List.set_cons_zero, List.set_cons_succ, List.getElem_toArray, List.getElem_cons_succ, List.getElem_cons_zero]
              refine wpAnyH_take (i := 54) (v := ?vv148) rfl (by kernel_rfl) (by kernel_rfl) (by kernel_rfl) (fun _ _ _ h => h) (Or.inl ⟨by rfl, ?hy148⟩) hHeld ?rr148
              case hy148 => (intro w' hSw; obtain ⟨g1, k0⟩ := HS.out _ hSw; go_simp; try with_reducible rfl)
              try simp only [Act.put, List.setIfInBounds_toArray, List.set_cons_zero, List.set_cons_succ, List.getElem_toArray, List.getElem_cons_succ, List.getElem_cons_zero]
              refine wpAnyH_take (i := 55) (v := ?vv149) rfl (by kernel_rfl) (by kernel_rfl) (by kernel_rfl) (fun _ _ _ h => h) (Or.inl ⟨by rfl, ?hy149⟩) hHeld ?rr149
              case hy149 => (intro w' hSw; obtain ⟨g1, k0⟩ := HS.out _ hSw; go_simp; try with_reducible rfl)
              try simp only [Act.put, List.setIfInBounds_toArray, List.set_cons_zero, List.set_cons_succ, List.getElem_toArray, List.getElem_cons_succ, List.getElem_cons_zero]
              refine wpAnyH_take (i := 56) (v := ?vv150) rfl (by kernel_rfl) (by kernel_rfl) (by kernel_rfl) (fun _ _ _ h => h) (Or.inl ⟨by rfl, ?hy150⟩) hHeld ?rr150
              case hy150 => (intro w' hSw; obtain ⟨g1, k0⟩ := HS.out _ hSw; go_simp; try with_reducible rfl)
              try simp only [Act.put, List.setIfInBounds_toArray, List.set_cons_zero, List.set_cons_succ, List.getElem_toArray, List.getElem_cons_succ, List.getElem_cons_zero]
              refine wpAnyH_take (i := 57) (v := ?vv151) rfl (by kernel_rfl) (by kernel_rfl) (by kernel_rfl) (fun _ _ _ h => h) (Or.inl ⟨by rfl, ?hy151⟩) hHeld ?rr151
              case hy151 => (intro w' hSw; obtain ⟨g1, k0⟩ := HS.out _ hSw; go_simp; try with_reducible rfl)
              try simp only [Act.put, List.setIfInBounds_toArray, List.set_cons_zero, List.set_cons_succ, List.getElem_toArray, List.getElem_cons_succ, List.getElem_cons_zero]
              refine wpAnyH_take (i := 58) (v := ?vv152) rfl (by kernel_rfl) (by kernel_rfl) (by kernel_rfl) (fun _ _ _ h => h) (Or.inl ⟨by rfl, ?hy152⟩) hHeld ?rr152
              case hy152 => (intro w' hSw; obtain ⟨g1, k0⟩ := HS.out _ hSw; go_simp; try with_reducible rfl)
              try simp only [Act.put, List.setIfInBounds_toArray, List.set_cons_zero, List.set_cons_succ, List.getElem_toArray, List.getElem_cons_succ, List.getElem_cons_zero]
              refine wpAnyH_take (i := 59) (v := ?vv153) rfl (by kernel_rfl) (by kernel_rfl) (by kernel_rfl) (fun _ _ _ h => h) (Or.inl ⟨by rfl, ?hy153⟩) hHeld ?rr153
              case hy153 => (intro w' hSw; obtain ⟨g1, k0⟩ := HS.out _ hSw; go_simp; try with_reducible rfl)
              try simp only [Act.put, List.setIfInBounds_toArray, List.set_cons_zero, List.set_cons_succ, List.getElem_toArray, List.getElem_cons_succ, List.getElem_cons_zero]
              refine wpAnyH_take (i := 60) (v := ?vv154) rfl (by kernel_rfl) (by kernel_rfl) (by kernel_rfl) (fun _ _ _ h => h) (Or.inl ⟨by rfl, ?hy154⟩) hHeld ?rr154
              case hy154 => (intro w' hSw; obtain ⟨g1, k0⟩ := HS.out _ hSw; go_simp; try with_reducible rfl)
              try simp only [Act.put, List.setIfInBounds_toArray, List.set_cons_zero, List.set_cons_succ, List.getElem_toArray, List.getElem_cons_succ, List.getElem_cons_zero]
              refine wpAnyH_take (i := 61) (v := ?vv155) rfl (by kernel_rfl) (by kernel_rfl) (by kernel_rfl) (fun _ _ _ h => h) (Or.inl ⟨by rfl, ?hy155⟩) hHeld ?rr155
              case hy155 => (intro w' hSw; obtain ⟨g1, k0⟩ := HS.out _ hSw; go_simp; try with_reducible rfl)
              try simp only [Act.put, List.setIfInBounds_toArray, List.set_cons_zero, List.set_cons_succ, List.getElem_toArray, List.getElem_cons_succ, List.getElem_cons_zero]
              refine wpAnyH_take (i := 62) (v := ?vv156) rfl (by kernel_rfl) (by kernel_rfl) (by kernel_rfl) (fun _ _ _ h => h) (Or.inl ⟨by rfl, ?hy156⟩) hHeld ?rr156
              case hy156 => (intro w' hSw; obtain ⟨g1, k0⟩ := HS.out _ hSw; go_simp; try with_reducible rfl)
              try simp only [Act.put, List.setIfInBounds_toArray, List.set_cons_zero, List.set_cons_succ, List.getElem_toArray, List.getElem_cons_succ, List.getElem_cons_zero]
              refine wpAnyH_take (i := 63) (v := ?vv157) rfl (by kernel_rfl) (by kernel_rfl) (by kernel_rfl) (fun _ _ _ h => h) (Or.inl ⟨by rfl, ?hy157⟩) hHeld ?rr157
              case hy157 => (intro w' hSw; obtain ⟨g1, k0⟩ := HS.out _ hSw; go_simp; try with_reducible rfl)
              try simp only [Act.put, List.setIfInBounds_toArray, List.set_cons_zero, List.set_cons_succ, List.getElem_toArray, List.getElem_cons_succ, List.getElem_cons_zero]
              refine wpAnyH_take (i := 64) (v := ?vv158) rfl (by kernel_rfl) (by kernel_rfl) (by kernel_rfl) (fun _ _ _ h => h) (Or.inl ⟨by rfl, ?hy158⟩) hHeld ?rr158
              case hy158 => (intro w' hSw; obtain ⟨g1, k0⟩ := HS.out _ hSw; go_simp; try with_reducible rfl)
              try simp only [Act.put, List.setIfInBounds_toArray, List.set_cons_zero, List.set_cons_succ, List.getElem_toArray, List.getElem_cons_succ, List.getElem_cons_zero]
              refine wpAnyH_take (i := 65) (v := ?vv159) rfl (by kernel_rfl) (by kernel_rfl) (by kernel_rfl) (fun _ _ _ h => h) (Or.inl ⟨by rfl, ?hy159⟩) hHeld ?rr159
              case hy159 => (intro w' hSw; obtain ⟨g1, k0⟩ := HS.out _ hSw; go_simp; try with_reducible rfl)
              try simp only [Act.put, List.setIfInBounds_toArray, List.set_cons_zero, List.set_cons_succ, List.getElem_toArray, List.getElem_cons_succ, List.getElem_cons_zero]
              refine wpAnyH_take (i := 66) (v := ?vv160) rfl (by kernel_rfl) (by kernel_rfl) (by kernel_rfl) (fun _ _ _ h => h) (Or.inl ⟨by rfl, ?hy160⟩) hHeld ?rr160
              case hy160 => (intro w' hSw; obtain ⟨g1, k0⟩ := HS.out _ hSw; go_simp; try with_reducible rfl)
              try simp only [Act.put, List.setIfInBounds_toArray, List.set_cons_zero, List.set_cons_succ, List.getElem_toArray, List.getElem_cons_succ, List.getElem_cons_zero]
              refine wpAnyH_take (i := 67) (v := ?vv161) rfl (by kernel_rfl) (by kernel_rfl) (by kernel_rfl) (fun _ _ _ h => h) (Or.inl ⟨by rfl, ?hy161⟩) hHeld ?rr161
              case hy161 => (intro w' hSw; obtain ⟨g1, k0⟩ := HS.out _ hSw; go_simp; try with_reducible rfl)
              try simp only [Act.put, List.setIfInBounds_toArray, List.set_cons_zero, List.set_cons_succ, List.getElem_toArray, List.getElem_cons_succ, List.getElem_cons_zero]
              refine wpAnyH_done (by kernel_rfl) ?_ _
              clear hHeld
              have H06 := Lib.hid (HB3.out.trans (H36.out.mono HB3.out.size))
              go_wp2
              go_roundw
              case rel => exact ⟨k + 1, s', b0, L', by omega, by omega, by go_num, Lib.hid (HBu.out.later H06.out), Lib.hid (HB.out.trans (H06.out.mono HB.out.size))⟩
              case measure => simp [intOf]; omega
    · have hk1' : ¬ (k : Int) < (n : Int) := by omega
      go_wp2
      go_ret
      exact ⟨rfl, HB.out⟩
end Go.Proofs.Ytkdfkhebjhnbmaa
