/- The law ExecOnce. -/
import Derived.Test.YtkdfkhebjhnbmaaExeM
import Derived.Test.YtkdfkhebjhnbmaaExeK
set_option linter.unusedSimpArgs false
set_option linter.unusedVariables false
namespace Go.Proofs.Ytkdfkhebjhnbmaa
open Go.ChangeShapes Go.WideShapes Go.ChangeAt Go.RowKit Go.Base Go.Que Go.Exe

theorem XL.all {B x : Nat} {w : World} {slots started : Int} {L : List Rn} (h : XL B w x slots started L) : Calls Try.prog 20 #[.pointer (some ⟨x, 0, none⟩)] w (AllPost L w) := by
  obtain ⟨F, hx, hF, hB⟩ := h
  exact callsIn_wide.1 (xall_in hx)
set_option maxHeartbeats 8000000 in
set_option maxRecDepth 20000 in
theorem law_once (A : Option Addr) (l : List Xop) (c : Nat) (w : World) (hl : Elts 6 opC w A l) (hok : ∀ o ∈ l, o.Ok) (hm : l.length ≤ maxLen) :
    Calls Try.prog 4 #[.slice A l.length c] w fun e w' => e = .returned (.bool true) ∧ Below w.heap.size w w' := by
  have HLi := Lib.hid (fun V => xlives V)
  have HN := Lib.hid (newX (slots := 5) (by omega) (by omega) w)
  obtain ⟨n, hn⟩ : ∃ n, n = l.length := ⟨_, rfl⟩
  rw [← hn] at hm ⊢
  have HL := Lib.hid hl
  have HLn := Lib.hid hn
  have HOk := Lib.hid hok
  have hm0 : (n : Int) ≤ 9223372036854775807 := by unfold maxLen at hm; omega
  clear hl hn hok hm
  go_enter Try.func4, Try.ntmps4
  go_wp2_with (first
    | (go_at_call 7; refine Calls.mono (by with_reducible exact HN.out) ?_; rintro e w1 ⟨x, rfl, hx, hb⟩; have HX1 := Lib.hid hx; have HB1 := Lib.hid hb; clear hx hb)
    | (go_at_call 9; refine Calls.mono (by with_reducible exact HLi.out _) ?_; rintro e w2 ⟨rfl, hb⟩; have HX2 := Lib.hid (HX1.out.later hb); have HB2 := Lib.hid (HB1.out.trans (hb.mono HB1.out.size)); clear hb HX1))
  go_loopw [5, 6, 7] (fun sv ev iv wr => ∃ (k s : Nat) (L : List Rn) (st en : Int), k ≤ n ∧ k ≤ 300 ∧ s ≤ k ∧ iv = .int .i64 (k : Int) ∧ sv = .int .i64 st ∧ ev = .int .i64 en ∧ 0 ≤ en ∧ en ≤ st ∧ st ≤ (k : Int) ∧ Hid (st - en = (L.length : Int)) ∧ Hid (XL w.heap.size wr x 5 (s : Int) L) ∧ Hid (Below w.heap.size w wr)) (fun _ _ iv _ => n - (intOf iv).toNat)
  case atStart => exact ⟨0, 0, [], 0, 0, by omega, by omega, by omega, rfl, rfl, rfl, by omega, by omega, by omega, Lib.hid (by simp), HX2, HB2⟩
  case round =>
    clear HX2 HB2
    obtain ⟨k, s, L, st, en, hkn, hk300, hsk, rfl, rfl, rfl, he0, hes, hstk, HEq, HX, HB⟩ := hrel
    have hkz : (0 : Int) ≤ (k : Int) := by omega
    have hk3 : (k : Int) ≤ 300 := by omega
    by_cases hk1 : k < n
    · have hk1' : (k : Int) < (n : Int) := by omega
      by_cases hk2 : k < 300
      · have hk2' : (k : Int) < 300 := by omega
        have hh : k < l.length := by rw [← HLn.out]; exact hk1
        obtain ⟨g, o, hA, hc⟩ := HL.out k hh
        have hkok := HOk.out l[k] (List.getElem_mem hh)
        obtain ⟨op, hop⟩ : ∃ a, a = l[k] := ⟨_, rfl⟩
        rw [← hop] at hc hkok
        obtain ⟨kd, key, u, now⟩ := op
        have HKf : Hid (kyfit key) := Lib.hid hkok.1
        have HUf : Hid (i64 u) := Lib.hid hkok.2.1
        have c0 := cell_later HB.out (hc 0 _ rfl)
        have c1 := cell_later HB.out (hc 1 _ rfl)
        have c2 := cell_later HB.out (hc 2 _ rfl)
        have c3 := cell_later HB.out (hc 3 _ rfl)
        have c4 := cell_later HB.out (hc 4 _ rfl)
        have c5 := cell_later HB.out (hc 5 _ rfl)
        simp only [Nat.add_zero] at c0
        clear hop hkok hc hh
        subst hA
        obtain ⟨W1, hW1⟩ : ∃ W1, W1 = wr.alloc (.cells #[.int .i64 kd, .string key.job, .int .i64 key.occ, .int .i64 key.host, .int .i64 u, .int .i64 now] 34) := ⟨_, rfl⟩
        have HX1 : Hid (XL w.heap.size W1 x 5 (s : Int) L) := Lib.hid (by rw [hW1]; exact HX.out.later (below_alloc _ _))
        have HB1 : Hid (Below w.heap.size w W1) := Lib.hid (by rw [hW1]; exact HB.out.alloc HB.out.size _)
        have HKp : Hid (∀ V, Below W1.heap.size W1 V → V.heap[wr.heap.size]? = some (.cells #[.int .i64 kd, .string key.job, .int .i64 key.occ, .int .i64 key.host, .int .i64 u, .int .i64 now] 34 (0, 0))) := Lib.hid (fun V hV => (hV.block _ (by rw [hW1]; simp)).trans (by rw [hW1]; exact heap_new _ _))
        have hz1 : wr.heap.size < W1.heap.size := by rw [hW1]; simp
        have HW1 := Lib.hid hW1
        have HAl := Lib.hid (fun V s' L' (h : XL w.heap.size V x 5 s' L') => h.all)
        have tA : True := trivial
        clear hW1
        by_cases hd1 : kd = 1
        · subst hd1
          by_cases hcan : CanStart 5 L key u now
          · have HSt : Hid (Calls Try.prog 10 #[.pointer (some ⟨x, 0, none⟩), .agg #[.string key.job, .int .i64 key.occ, .int .i64 key.host], .int .i64 u, .int .i64 now] W1 (StartYes w.heap.size x 5 (s : Int) L key u W1)) :=
              Lib.hid (HX1.out.start_ok HKf.out hcan.2.1 hcan.1 HUf.out hcan.2.2 (by omega))
            have hl2 : (insR ⟨key, u, (s : Int) + 1⟩ L).length = L.length + 1 := len_insR _ _
            have h5 : L.length + 1 ≤ 5 := by have := hcan.2.2; omega
            obtain ⟨L', hL'⟩ : ∃ L', L' = insR ⟨key, u, (s : Int) + 1⟩ L := ⟨_, rfl⟩
            unfold StartYes at HSt
            rw [← hL'] at HSt hl2
            have HEq2 : Hid (st + 1 - en = (L'.length : Int)) := Lib.hid (by have := HEq.out; rw [hl2]; omega)
            have q1 : (st + 1 - en != (L'.length : Int)) = false := by rw [bne_eq_false_iff_eq]; exact HEq2.out
            have q2 : decide ((5 : Int) < (L'.length : Int)) = false := by rw [decide_eq_false_iff_not]; omega
            have q3 : decide (5 < L'.length) = false := by rw [decide_eq_false_iff_not]; omega
            clear hcan hl2 h5 hL'
            obtain ⟨j, oc, ho⟩ := key
            go_wp2_with (first
              | (go_at_call 10; rw [← HW1.out]; refine Calls.mono (by with_reducible exact HSt.out) ?_; rintro en w5 ⟨rfl, hx5, hb5⟩; have HX5 := Lib.hid hx5; have HB5 := Lib.hid (HB1.out.trans hb5); clear hx5 hb5)
              | (clear tA; go_at_call 20; refine Calls.mono (by with_reducible exact HAl.out _ _ _ HX5.out) ?_; rintro en w6 ⟨A6, c6, rfl, _, hb⟩; have HX6 := Lib.hid (HX5.out.later hb); have HB6 := Lib.hid (HB5.out.trans (hb.mono HB5.out.size)); clear hb)
              | (go_at_call 20; refine Calls.mono (by with_reducible exact HAl.out _ _ _ HX6.out) ?_; rintro en w7 ⟨A7, c7, rfl, _, hb⟩; have HX7 := Lib.hid (HX6.out.later hb); have HB7 := Lib.hid (HB6.out.trans (hb.mono HB6.out.size)); clear hb))
            go_roundw
            case rel => exact ⟨k + 1, s + 1, L', st + 1, en, by omega, by omega, by omega, by go_num, by go_num, by go_num, by omega, by omega, by omega, HEq2, HX7, HB7⟩
            case measure => simp [intOf]; omega
          · skip
            obtain ⟨cd, hwhy, hcd⟩ := why_not hcan
            have HSt : Hid (Calls Try.prog 10 #[.pointer (some ⟨x, 0, none⟩), .agg #[.string key.job, .int .i64 key.occ, .int .i64 key.host], .int .i64 u, .int .i64 now] W1 (NoPost cd W1)) := Lib.hid (HX1.out.start_no HKf.out hwhy)
            have HEq2 := HEq
            have h5 : L.length ≤ 5 := by have := HX1.out.ok.few; omega
            have q1 : (st - en != (L.length : Int)) = false := by rw [bne_eq_false_iff_eq]; exact HEq2.out
            have q2 : decide ((5 : Int) < (L.length : Int)) = false := by rw [decide_eq_false_iff_not]; omega
            have q3 : decide (5 < L.length) = false := by rw [decide_eq_false_iff_not]; omega
            clear hcan hwhy
            obtain ⟨j, oc, ho⟩ := key
            go_wp2_with (first
              | (go_at_call 10; rw [← HW1.out]; refine Calls.mono (by with_reducible exact HSt.out) ?_; rintro en w5 ⟨rfl, hb⟩; have HX5 := Lib.hid (HX1.out.later hb); have HB5 := Lib.hid (HB1.out.trans (hb.mono HB1.out.size)); clear hb)
              | (clear tA; go_at_call 20; refine Calls.mono (by with_reducible exact HAl.out _ _ _ HX5.out) ?_; rintro en w6 ⟨A6, c6, rfl, _, hb⟩; have HX6 := Lib.hid (HX5.out.later hb); have HB6 := Lib.hid (HB5.out.trans (hb.mono HB5.out.size)); clear hb)
              | (go_at_call 20; refine Calls.mono (by with_reducible exact HAl.out _ _ _ HX6.out) ?_; rintro en w7 ⟨A7, c7, rfl, _, hb⟩; have HX7 := Lib.hid (HX6.out.later hb); have HB7 := Lib.hid (HB6.out.trans (hb.mono HB6.out.size)); clear hb))
            go_roundw
            case rel => exact ⟨k + 1, s, L, st, en, by omega, by omega, by omega, by go_num, by go_num, by go_num, by omega, by omega, by omega, HEq2, HX7, HB7⟩
            case measure => simp [intOf]; omega
        by_cases hd2 : kd = 2
        · subst hd2
          by_cases hthere : ∃ r ∈ L, r.key = key
          · skip
            obtain ⟨r, hr, rfl⟩ := hthere
            have HFi : Hid (Calls Try.prog 12 #[.pointer (some ⟨x, 0, none⟩), .agg #[.string r.key.job, .int .i64 r.key.occ, .int .i64 r.key.host]] W1 (OpX w.heap.size x 5 (s : Int) (del L r.num) (.int .i64 0) W1)) := Lib.hid (HX1.out.finish_hit hr)
            have hl2 : (del L r.num).length + 1 = L.length := len_del (fun a ha e => HX1.out.ok.nums a ha r hr e) HX1.out.ok.asc hr
            have h5 : L.length ≤ 5 := by have := HX1.out.ok.few; omega
            obtain ⟨L', hL'⟩ : ∃ L', L' = del L r.num := ⟨_, rfl⟩
            rw [← hL'] at HFi hl2
            have HEq2 : Hid (st - (en + 1) = (L'.length : Int)) := Lib.hid (by have := HEq.out; omega)
            have q1 : (st - (en + 1) != (L'.length : Int)) = false := by rw [bne_eq_false_iff_eq]; exact HEq2.out
            have q2 : decide ((5 : Int) < (L'.length : Int)) = false := by rw [decide_eq_false_iff_not]; omega
            have q3 : decide (5 < L'.length) = false := by rw [decide_eq_false_iff_not]; omega
            have hen : en + 1 ≤ st := by have := HEq.out; omega
            clear hl2 h5 hL' hr
            obtain ⟨⟨j, oc, ho⟩, ru, rnum⟩ := r
            go_wp2_with (first
              | (go_at_call 12; rw [← HW1.out]; refine Calls.mono (by with_reducible exact HFi.out) ?_; rintro en w5 ⟨rfl, hx5, hb5⟩; have HX5 := Lib.hid hx5; have HB5 := Lib.hid (HB1.out.trans hb5); clear hx5 hb5)
              | (clear tA; go_at_call 20; refine Calls.mono (by with_reducible exact HAl.out _ _ _ HX5.out) ?_; rintro en w6 ⟨A6, c6, rfl, _, hb⟩; have HX6 := Lib.hid (HX5.out.later hb); have HB6 := Lib.hid (HB5.out.trans (hb.mono HB5.out.size)); clear hb)
              | (go_at_call 20; refine Calls.mono (by with_reducible exact HAl.out _ _ _ HX6.out) ?_; rintro en w7 ⟨A7, c7, rfl, _, hb⟩; have HX7 := Lib.hid (HX6.out.later hb); have HB7 := Lib.hid (HB6.out.trans (hb.mono HB6.out.size)); clear hb))
            go_roundw
            case rel => exact ⟨k + 1, s, L', st, (en + 1), by omega, by omega, by omega, by go_num, by go_num, by go_num, by omega, by omega, by omega, HEq2, HX7, HB7⟩
            case measure => simp [intOf]; omega
          · skip
            have hno : ∀ r ∈ L, r.key ≠ key := fun r hr e => hthere ⟨r, hr, e⟩
            have HFi : Hid (Calls Try.prog 12 #[.pointer (some ⟨x, 0, none⟩), .agg #[.string key.job, .int .i64 key.occ, .int .i64 key.host]] W1 (NoPost 4 W1)) := Lib.hid (HX1.out.finish_miss HKf.out hno)
            have HEq2 := HEq
            have h5 : L.length ≤ 5 := by have := HX1.out.ok.few; omega
            have q1 : (st - en != (L.length : Int)) = false := by rw [bne_eq_false_iff_eq]; exact HEq2.out
            have q2 : decide ((5 : Int) < (L.length : Int)) = false := by rw [decide_eq_false_iff_not]; omega
            have q3 : decide (5 < L.length) = false := by rw [decide_eq_false_iff_not]; omega
            clear hthere hno
            obtain ⟨j, oc, ho⟩ := key
            go_wp2_with (first
              | (go_at_call 12; rw [← HW1.out]; refine Calls.mono (by with_reducible exact HFi.out) ?_; rintro en w5 ⟨rfl, hb⟩; have HX5 := Lib.hid (HX1.out.later hb); have HB5 := Lib.hid (HB1.out.trans (hb.mono HB1.out.size)); clear hb)
              | (clear tA; go_at_call 20; refine Calls.mono (by with_reducible exact HAl.out _ _ _ HX5.out) ?_; rintro en w6 ⟨A6, c6, rfl, _, hb⟩; have HX6 := Lib.hid (HX5.out.later hb); have HB6 := Lib.hid (HB5.out.trans (hb.mono HB5.out.size)); clear hb)
              | (go_at_call 20; refine Calls.mono (by with_reducible exact HAl.out _ _ _ HX6.out) ?_; rintro en w7 ⟨A7, c7, rfl, _, hb⟩; have HX7 := Lib.hid (HX6.out.later hb); have HB7 := Lib.hid (HB6.out.trans (hb.mono HB6.out.size)); clear hb))
            go_roundw
            case rel => exact ⟨k + 1, s, L, st, en, by omega, by omega, by omega, by go_num, by go_num, by go_num, by omega, by omega, by omega, HEq2, HX7, HB7⟩
            case measure => simp [intOf]; omega
        by_cases hd3 : kd = 3
        · subst hd3
          obtain ⟨F, hxF, hFB, hBw⟩ := HX.out
          have hop : ¬ F wr.heap.size := fun h => by have := hxF.2 _ h; omega
          have HKi : Hid (Calls Try.prog 15 #[.pointer (some ⟨x, 0, none⟩), .int .i64 now] W1 (KillPost F x 5 (s : Int) now L W1)) := Lib.hid (kill_any (hxF.later (by rw [HW1.out]; exact below_alloc _ _)) now)
          have HFB := Lib.hid hFB
          have HOp := Lib.hid hop
          have HOkL := Lib.hid hxF.ok
          clear hxF hFB hop
          obtain ⟨j, oc, ho⟩ := key
          go_wp2_with (go_at_call 15; rw [← HW1.out]; refine Calls.mono (by with_reducible exact HKi.out) ?_; rintro e5 w5 ⟨done, rest, A3, c3, hR, hd1, hd2, rfl, ⟨hown, F2, hx2, hF2, hdis⟩, hm5⟩; have HR := Lib.hid hR; have HD1 := Lib.hid hd1; have HO := Lib.hid hown; have HX2 := Lib.hid hx2; have HF2 := Lib.hid hF2; have HM5 := Lib.hid hm5; obtain ⟨dn, hdn⟩ : ∃ dn, dn = done.length := ⟨_, rfl⟩; rw [← hdn]; have HDn := Lib.hid hdn; clear hR hd1 hd2 hown hx2 hF2 hdis hm5 hdn HKi)
          have hlen : dn + rest.length = L.length := by rw [HDn.out, HR.out, List.length_append]
          have hdz : (0 : Int) ≤ (dn : Int) := by omega
          have hBW : w.heap.size ≤ W1.heap.size := HB1.out.size
          have HZ5 : Hid (W1.heap.size ≤ w5.heap.size) := Lib.hid HM5.out.size
          have HB5 : Hid (Below w.heap.size w w5) := Lib.hid (HB1.out.trans (HM5.out.below (fun k _ h => HFB.out k h) hBW))
          have HK5 : Hid (w5.heap[wr.heap.size]? = some (.cells #[.int .i64 3, .string j, .int .i64 oc, .int .i64 ho, .int .i64 u, .int .i64 now] 34 (0, 0))) := Lib.hid (HM5.out.heap (HKp.out _ (Below.refl _ _)) HOp.out)
          have HXR : Hid (∀ V, Below w5.heap.size w5 V → XL w.heap.size V x 5 (s : Int) rest) := Lib.hid (fun V hV => ⟨F2, HX2.out.later hV, fun k hk => (HF2.out k hk).elim (HFB.out k) (fun h => by omega), by have h1 := hV.size; have h2 := HZ5.out; omega⟩)
          have HNo : Hid (∀ i (h : i < done.length), ∀ r ∈ rest, r.key ≠ done[i].key) := Lib.hid (fun i h r hr e => by
            have hk := HOkL.out.keys r (by rw [HR.out]; exact List.mem_append_right _ hr) done[i] (by rw [HR.out]; exact List.mem_append_left _ (List.getElem_mem h)) e
            have ha := HOkL.out.asc
            rw [HR.out, List.pairwise_append] at ha
            have := ha.2.2 done[i] (List.getElem_mem h) r hr
            rw [hk] at this
            unfold ltR at this; omega)
          have HFt : Hid (∀ i (h : i < done.length), kyfit done[i].key) := Lib.hid (fun i h => (HOkL.out.fit done[i] (by rw [HR.out]; exact List.mem_append_left _ (List.getElem_mem h))).1)
          obtain ⟨W5, hW5⟩ : ∃ W5, W5 = w5 := ⟨_, rfl⟩
          rw [← hW5] at HO HB5 HK5 HXR ⊢
          have hwz : wr.heap.size < W5.heap.size := by have := HZ5.out; rw [hW5]; omega
          have HWz := Lib.hid hwz
          clear hW5 HX2 HF2 HM5 HZ5 HX HX1 HKp HW1 hz1 hBW hwz
          obtain ⟨b0, hb0⟩ : ∃ b0, b0 = wr.heap.size := ⟨_, rfl⟩
          rw [← hb0] at HK5 HWz ⊢
          have h5 : L.length ≤ 5 := by have := HOkL.out.few; omega
          clear hb0
          go_loopw [10] (fun iv wq => ∃ i : Nat, i ≤ dn ∧ iv = .int .i64 (i : Int) ∧ Hid (Below W5.heap.size W5 wq)) (fun iv _ => dn - (intOf iv).toNat)
          case atStart => exact ⟨0, by omega, rfl, Lib.hid (Below.refl _ _)⟩
          case round =>
            obtain ⟨i, hi, rfl, HBq⟩ := hrel
            have hi0 : (0 : Int) ≤ (i : Int) := by omega
            by_cases hid : i < dn
            · have hid' : (i : Int) < (dn : Int) := by omega
              have hil : i < done.length := by rw [← HDn.out]; exact hid
              have hoq := own_moved (p := fun _ => False) HO.out (Below.movedNew HBq.out) (fun _ _ h => h)
              obtain ⟨gr, hA3, hcc⟩ := row_cell hoq hil rfl
              have HFi := Lib.hid (fun V (hV : Below W5.heap.size W5 V) => (HXR.out V hV).finish_miss (HFt.out i hil) (HNo.out i hil))
              have hd1 := HD1.out _ (List.getElem_mem hil)
              obtain ⟨rr, hrr⟩ : ∃ rr, rr = done[i] := ⟨_, rfl⟩
              rw [← hrr] at hcc HFi hd1
              obtain ⟨⟨rj, ro, rg⟩, ru, rnum⟩ := rr
              have v0 : wr.cell? ⟨gr, i * 4, none⟩ = some (.string rj) := (hcc 0 (by omega)).trans rfl
              have v1 : wr.cell? ⟨gr, i * 4 + 1, none⟩ = some (.int .i64 ro) := (hcc 1 (by omega)).trans rfl
              have v2 : wr.cell? ⟨gr, i * 4 + 2, none⟩ = some (.int .i64 rg) := (hcc 2 (by omega)).trans rfl
              have v3 : wr.cell? ⟨gr, i * 4 + 3, none⟩ = some (.int .i64 ru) := (hcc 3 (by omega)).trans rfl
              have v5 := cell_later HBq.out (cell_of_row _ _ 5 _ _ _ HK5.out)
              have e1 : decide (now < ru) = false := by rw [decide_eq_false_iff_not]; show ¬ now < ru; have : ru ≤ now := hd1; omega
              clear hrr hcc hil hoq hd1
              subst hA3
              go_wp2
              refine wp_region_held_drew (S := (fun V => V.cell? ⟨gr, i * 4, none⟩ = some (.string rj) ∧ V.cell? ⟨gr, i * 4 + 1, none⟩ = some (.int .i64 ro) ∧ V.cell? ⟨gr, i * 4 + 2, none⟩ = some (.int .i64 rg) ∧ V.cell? ⟨gr, i * 4 + 3, none⟩ = some (.int .i64 ru) ∧ V.cell? ⟨b0, 5, none⟩ = some (.int .i64 now))) (by kernel_rfl) ⟨v0, v1, v2, v3, v5⟩ (fun hHeld => ?_)
              refine wpAnyH_take (i := 0) (v := ?vv1) rfl (by kernel_rfl) (by kernel_rfl) (by kernel_rfl) (fun _ _ _ h => h) (Or.inl ⟨by rfl, ?hy1⟩) hHeld ?rr1
              case hy1 => (intro w' hSw; obtain ⟨g1, g2, g3, g4, g5⟩ := hSw; go_simp; try with_reducible rfl)
              try simp only [Act.put, List.setIfInBounds_toArray, List.set_cons_zero, List.set_cons_succ, List.getElem_toArray, List.getElem_cons_succ, List.getElem_cons_zero]
              refine wpAnyH_take (i := 1) (v := ?vv2) rfl (by kernel_rfl) (by kernel_rfl) (by kernel_rfl) (fun _ _ _ h => h) (Or.inl ⟨by rfl, ?hy2⟩) hHeld ?rr2
              case hy2 => (intro w' hSw; obtain ⟨g1, g2, g3, g4, g5⟩ := hSw; go_simp; try with_reducible rfl)
              try simp only [Act.put, List.setIfInBounds_toArray, List.set_cons_zero, List.set_cons_succ, List.getElem_toArray, List.getElem_cons_succ, List.getElem_cons_zero]
              refine wpAnyH_take (i := 2) (v := ?vv3) rfl (by kernel_rfl) (by kernel_rfl) (by kernel_rfl) (fun _ _ _ h => h) (Or.inl ⟨by rfl, ?hy3⟩) hHeld ?rr3
              case hy3 => (intro w' hSw; obtain ⟨g1, g2, g3, g4, g5⟩ := hSw; go_simp; try with_reducible rfl)
              try simp only [Act.put, List.setIfInBounds_toArray, List.set_cons_zero, List.set_cons_succ, List.getElem_toArray, List.getElem_cons_succ, List.getElem_cons_zero]
              refine wpAnyH_take (i := 3) (v := ?vv4) rfl (by kernel_rfl) (by kernel_rfl) (by kernel_rfl) (fun _ _ _ h => h) (Or.inl ⟨by rfl, ?hy4⟩) hHeld ?rr4
              case hy4 => (intro w' hSw; obtain ⟨g1, g2, g3, g4, g5⟩ := hSw; go_simp; try with_reducible rfl)
              try simp only [Act.put, List.setIfInBounds_toArray, List.set_cons_zero, List.set_cons_succ, List.getElem_toArray, List.getElem_cons_succ, List.getElem_cons_zero]
              refine wpAnyH_take (i := 4) (v := ?vv5) rfl (by kernel_rfl) (by kernel_rfl) (by kernel_rfl) (fun _ _ _ h => h) (Or.inl ⟨by rfl, ?hy5⟩) hHeld ?rr5
              case hy5 => (intro w' hSw; obtain ⟨g1, g2, g3, g4, g5⟩ := hSw; go_simp; try with_reducible rfl)
              try simp only [Act.put, List.setIfInBounds_toArray, List.set_cons_zero, List.set_cons_succ, List.getElem_toArray, List.getElem_cons_succ, List.getElem_cons_zero]
              refine wpAnyH_take (i := 5) (v := ?vv6) rfl (by kernel_rfl) (by kernel_rfl) (by kernel_rfl) (fun _ _ _ h => h) (Or.inl ⟨by rfl, ?hy6⟩) hHeld ?rr6
              case hy6 => (intro w' hSw; obtain ⟨g1, g2, g3, g4, g5⟩ := hSw; go_simp; try with_reducible rfl)
              try simp only [Act.put, List.setIfInBounds_toArray, List.set_cons_zero, List.set_cons_succ, List.getElem_toArray, List.getElem_cons_succ, List.getElem_cons_zero]
              refine wpAnyH_take (i := 6) (v := ?vv7) rfl (by kernel_rfl) (by kernel_rfl) (by kernel_rfl) (fun _ _ _ h => h) (Or.inl ⟨by rfl, ?hy7⟩) hHeld ?rr7
              case hy7 => (intro w' hSw; obtain ⟨g1, g2, g3, g4, g5⟩ := hSw; go_simp; try with_reducible rfl)
              try simp only [Act.put, List.setIfInBounds_toArray, List.set_cons_zero, List.set_cons_succ, List.getElem_toArray, List.getElem_cons_succ, List.getElem_cons_zero]
              refine wpAnyH_take (i := 7) (v := ?vv8) rfl (by kernel_rfl) (by kernel_rfl) (by kernel_rfl) (fun _ _ _ h => h) (Or.inl ⟨by rfl, ?hy8⟩) hHeld ?rr8
              case hy8 => (intro w' hSw; obtain ⟨g1, g2, g3, g4, g5⟩ := hSw; go_simp; try with_reducible rfl)
              try simp only [Act.put, List.setIfInBounds_toArray, List.set_cons_zero, List.set_cons_succ, List.getElem_toArray, List.getElem_cons_succ, List.getElem_cons_zero]
              refine wpAnyH_take (i := 8) (v := ?vv9) rfl (by kernel_rfl) (by kernel_rfl) (by kernel_rfl) (fun _ _ _ h => h) (Or.inl ⟨by rfl, ?hy9⟩) hHeld ?rr9
              case hy9 => (intro w' hSw; obtain ⟨g1, g2, g3, g4, g5⟩ := hSw; go_simp; try with_reducible rfl)
              try simp only [Act.put, List.setIfInBounds_toArray, List.set_cons_zero, List.set_cons_succ, List.getElem_toArray, List.getElem_cons_succ, List.getElem_cons_zero]
              refine wpAnyH_take (i := 9) (v := ?vv10) rfl (by kernel_rfl) (by kernel_rfl) (by kernel_rfl) (fun _ _ _ h => h) (Or.inl ⟨by rfl, ?hy10⟩) hHeld ?rr10
              case hy10 => (intro w' hSw; obtain ⟨g1, g2, g3, g4, g5⟩ := hSw; go_simp; try with_reducible rfl)
              try simp only [Act.put, List.setIfInBounds_toArray, List.set_cons_zero, List.set_cons_succ, List.getElem_toArray, List.getElem_cons_succ, List.getElem_cons_zero]
              refine wpAnyH_take (i := 10) (v := ?vv11) rfl (by kernel_rfl) (by kernel_rfl) (by kernel_rfl) (fun _ _ _ h => h) (Or.inl ⟨by rfl, ?hy11⟩) hHeld ?rr11
              case hy11 => (intro w' hSw; obtain ⟨g1, g2, g3, g4, g5⟩ := hSw; go_simp; try with_reducible rfl)
              try simp only [Act.put, List.setIfInBounds_toArray, List.set_cons_zero, List.set_cons_succ, List.getElem_toArray, List.getElem_cons_succ, List.getElem_cons_zero]
              refine wpAnyH_take (i := 11) (v := ?vv12) rfl (by kernel_rfl) (by kernel_rfl) (by kernel_rfl) (fun _ _ _ h => h) (Or.inl ⟨by rfl, ?hy12⟩) hHeld ?rr12
              case hy12 => (intro w' hSw; obtain ⟨g1, g2, g3, g4, g5⟩ := hSw; go_simp; try with_reducible rfl)
              try simp only [Act.put, List.setIfInBounds_toArray, List.set_cons_zero, List.set_cons_succ, List.getElem_toArray, List.getElem_cons_succ, List.getElem_cons_zero]
              refine wpAnyH_take (i := 12) (v := ?vv13) rfl (by kernel_rfl) (by kernel_rfl) (by kernel_rfl) (fun _ _ _ h => h) (Or.inl ⟨by rfl, ?hy13⟩) hHeld ?rr13
              case hy13 => (intro w' hSw; obtain ⟨g1, g2, g3, g4, g5⟩ := hSw; go_simp; try with_reducible rfl)
              try simp only [Act.put, List.setIfInBounds_toArray, List.set_cons_zero, List.set_cons_succ, List.getElem_toArray, List.getElem_cons_succ, List.getElem_cons_zero]
              refine wpAnyH_take (i := 13) (v := ?vv14) rfl (by kernel_rfl) (by kernel_rfl) (by kernel_rfl) (fun _ _ _ h => h) (Or.inl ⟨by rfl, ?hy14⟩) hHeld ?rr14
              case hy14 => (intro w' hSw; obtain ⟨g1, g2, g3, g4, g5⟩ := hSw; go_simp; try with_reducible rfl)
              try simp only [Act.put, List.setIfInBounds_toArray, List.set_cons_zero, List.set_cons_succ, List.getElem_toArray, List.getElem_cons_succ, List.getElem_cons_zero]
              refine wpAnyH_take (i := 14) (v := ?vv15) rfl (by kernel_rfl) (by kernel_rfl) (by kernel_rfl) (fun _ _ _ h => h) (Or.inl ⟨by rfl, ?hy15⟩) hHeld ?rr15
              case hy15 => (intro w' hSw; obtain ⟨g1, g2, g3, g4, g5⟩ := hSw; go_simp; try with_reducible rfl)
              try simp only [Act.put, List.setIfInBounds_toArray, List.set_cons_zero, List.set_cons_succ, List.getElem_toArray, List.getElem_cons_succ, List.getElem_cons_zero]
              refine wpAnyH_ready (rs := [15]) (by kernel_rfl) (by simp) ?_
              refine AllReadyH.cons rfl (fun K hK => ?_) AllReadyH.nil
              try rw [if_pos (by rfl)]
              go_simp
              go_at_call 12
              refine Calls.mono (by with_reducible exact HFi.out _ HBq.out.drew) ?_
              rintro e7 w7 ⟨rfl, hb7⟩
              have HB7 : Hid (Below wr.heap.size wr w7) := Lib.hid ((Below.refl wr.heap.size wr).drew.trans hb7)
              clear hb7
              go_wp2_with fail
              refine hK.out _ _ ⟨cell_later HB7.out v0, cell_later HB7.out v1, cell_later HB7.out v2, cell_later HB7.out v3, cell_later HB7.out v5⟩ (fun hHeld2 => ?_)
              clear hK K hHeld
              have hHeld := hHeld2
              clear hHeld2
              try simp only [Act.put, List.setIfInBounds_toArray, List.set_cons_zero, List.set_cons_succ, List.getElem_toArray, List.getElem_cons_succ, List.getElem_cons_zero]
              refine wpAnyH_take (i := 16) (v := ?vv16) rfl (by kernel_rfl) (by kernel_rfl) (by kernel_rfl) (fun _ _ _ h => h) (Or.inl ⟨by rfl, ?hy16⟩) hHeld ?rr16
              case hy16 => (intro w' hSw; obtain ⟨g1, g2, g3, g4, g5⟩ := hSw; go_simp; try with_reducible rfl)
              try simp only [Act.put, List.setIfInBounds_toArray, List.set_cons_zero, List.set_cons_succ, List.getElem_toArray, List.getElem_cons_succ, List.getElem_cons_zero]
              refine wpAnyH_take (i := 17) (v := ?vv17) rfl (by kernel_rfl) (by kernel_rfl) (by kernel_rfl) (fun _ _ _ h => h) (Or.inl ⟨by rfl, ?hy17⟩) hHeld ?rr17
              case hy17 => (intro w' hSw; obtain ⟨g1, g2, g3, g4, g5⟩ := hSw; go_simp; try with_reducible rfl)
              try simp only [Act.put, List.setIfInBounds_toArray, List.set_cons_zero, List.set_cons_succ, List.getElem_toArray, List.getElem_cons_succ, List.getElem_cons_zero]
              refine wpAnyH_done (by kernel_rfl) ?_ _
              clear hHeld
              go_wp2
              go_roundw
              case rel => exact ⟨i + 1, by omega, by go_num, Lib.hid (HBq.out.trans (HB7.out.mono HBq.out.size))⟩
              case measure => simp [intOf]; omega
            · have hid' : ¬ (i : Int) < (dn : Int) := by omega
              obtain rfl : i = dn := by omega
              have HX5 : Hid (XL w.heap.size wr x 5 (s : Int) rest) := Lib.hid (HXR.out wr HBq.out)
              have HB9 : Hid (Below w.heap.size w wr) := Lib.hid (HB5.out.trans (HBq.out.mono HB5.out.size))
              clear HB5
              have HB5 := HB9
              clear HB9
              have HEq2 : Hid (st - (en + (i : Int)) = (rest.length : Int)) := Lib.hid (by have := HEq.out; omega)
              have q1 : (st - (en + (i : Int)) != (rest.length : Int)) = false := by rw [bne_eq_false_iff_eq]; exact HEq2.out
              have q2 : decide ((5 : Int) < (rest.length : Int)) = false := by rw [decide_eq_false_iff_not]; omega
              have q3 : decide (5 < rest.length) = false := by rw [decide_eq_false_iff_not]; omega
              have hen : en + (i : Int) ≤ st := by have := HEq.out; omega
              go_wp2_with (first
                | (clear tA; go_at_call 20; refine Calls.mono (by with_reducible exact HAl.out _ _ _ HX5.out) ?_; rintro en w6 ⟨A6, c6, rfl, _, hb⟩; have HX6 := Lib.hid (HX5.out.later hb); have HB6 := Lib.hid (HB5.out.trans (hb.mono HB5.out.size)); clear hb)
                | (go_at_call 20; refine Calls.mono (by with_reducible exact HAl.out _ _ _ HX6.out) ?_; rintro en w7 ⟨A7, c7, rfl, _, hb⟩; have HX7 := Lib.hid (HX6.out.later hb); have HB7 := Lib.hid (HB6.out.trans (hb.mono HB6.out.size)); clear hb))
              go_roundw
              case rel => exact ⟨k + 1, s, rest, st, (en + (i : Int)), by omega, by omega, by omega, by go_num, by go_num, by go_num, by omega, by omega, by omega, HEq2, HX7, HB7⟩
              case measure => simp [intOf]; omega
        have b1 : (kd == 1) = false := by rw [beq_eq_false_iff_ne]; exact hd1
        have b2 : (kd == 2) = false := by rw [beq_eq_false_iff_ne]; exact hd2
        have b3 : (kd == 3) = false := by rw [beq_eq_false_iff_ne]; exact hd3
        have HEq2 := HEq
        have h5 : L.length ≤ 5 := by have := HX1.out.ok.few; omega
        have q1 : (st - en != (L.length : Int)) = false := by rw [bne_eq_false_iff_eq]; exact HEq2.out
        have q2 : decide ((5 : Int) < (L.length : Int)) = false := by rw [decide_eq_false_iff_not]; omega
        have q3 : decide (5 < L.length) = false := by rw [decide_eq_false_iff_not]; omega
        have HX5 := HX1
        have HB5 := HB1
        rw [HW1.out] at HX5 HB5
        obtain ⟨j, oc, ho⟩ := key
        go_wp2_with (first
          | (clear tA; go_at_call 20; refine Calls.mono (by with_reducible exact HAl.out _ _ _ HX5.out) ?_; rintro en w6 ⟨A6, c6, rfl, _, hb⟩; have HX6 := Lib.hid (HX5.out.later hb); have HB6 := Lib.hid (HB5.out.trans (hb.mono HB5.out.size)); clear hb)
          | (go_at_call 20; refine Calls.mono (by with_reducible exact HAl.out _ _ _ HX6.out) ?_; rintro en w7 ⟨A7, c7, rfl, _, hb⟩; have HX7 := Lib.hid (HX6.out.later hb); have HB7 := Lib.hid (HB6.out.trans (hb.mono HB6.out.size)); clear hb))
        go_roundw
        case rel => exact ⟨k + 1, s, L, st, en, by omega, by omega, by omega, by go_num, by go_num, by go_num, by omega, by omega, by omega, HEq2, HX7, HB7⟩
        case measure => simp [intOf]; omega
      · have hk2' : ¬ (k : Int) < 300 := by omega
        go_wp2
        go_ret
        exact ⟨rfl, HB.out⟩
    · have hk1' : ¬ (k : Int) < (n : Int) := by omega
      go_wp2
      go_ret
      exact ⟨rfl, HB.out⟩
end Go.Proofs.Ytkdfkhebjhnbmaa
