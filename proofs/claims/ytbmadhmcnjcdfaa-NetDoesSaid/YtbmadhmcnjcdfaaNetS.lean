/- The law NetDoes. -/
import Derived.Test.YtbmadhmcnjcdfaaNetR5
set_option linter.unusedSimpArgs false
set_option linter.unusedVariables false
namespace Go.Proofs.Ytbmadhmcnjcdfaa
open Go.ChangeShapes Go.WideShapes Go.ChangeAt Go.RowKit Go.Base Go.Net

theorem nb_start {w w1 w2 : World} {q x : Nat} {s : St} (hn : NT 55 (fun k => w.heap.size ≤ k) w1 q s) (hb : Below w.heap.size w w1) (hx : NT 57 (fun k => w1.heap.size ≤ k) w2 x s) (hb2 : Below w1.heap.size w1 w2) : NB w (fun _ => False) q x s s w2 := by
  obtain ⟨F1, h1, hF1, hl1⟩ := hn.tight
  obtain ⟨F2, h2, hF2, hl2⟩ := hx.tight
  have s1 := hb.size
  have s2 := hb2.size
  refine ⟨F1, F2, h1.later hb2, h2, fun j a b => ?_, fun j a => ⟨fun h => h, hF1 j a, ?_⟩, fun j a => ⟨fun h => h, ?_, hl2 j a⟩, hb.trans (hb2.mono hb.size)⟩
  · have := hl1 j a; have := hF2 j b; omega
  · have := hl1 j a; omega
  · have := hF2 j a; omega
theorem new_yes {n : Int} (h : 1 ≤ n ∧ n ≤ 65537) (w : World) : Calls Try.prog 7 #[.int .i64 n] w fun e w' => ∃ p : Nat, e = .returned (.tuple #[.pointer (some ⟨p, 0, none⟩), .int .i64 0]) ∧ NT 55 (fun k => w.heap.size ≤ k) w' p ⟨n, 0, 0, []⟩ ∧ Below w.heap.size w w' :=
  (new_any n w).mono fun e w' h1 => by unfold NewPost at h1; rw [if_pos h] at h1; exact h1
theorem new_no {n : Int} (h : ¬ (1 ≤ n ∧ n ≤ 65537)) (w : World) : Calls Try.prog 7 #[.int .i64 n] w fun e w' => e = .returned (.tuple #[.pointer none, .int .i64 1]) ∧ w = w' :=
  (new_any n w).mono fun e w' h1 => by unfold NewPost at h1; rw [if_neg h] at h1; exact h1
theorem rnew_yes {n : Int} (h : 1 ≤ n ∧ n ≤ 65537) (w : World) : Calls Try.prog 8 #[.int .i64 n] w fun e w' => ∃ p : Nat, e = .returned (.tuple #[.pointer (some ⟨p, 0, none⟩), .int .i64 0]) ∧ NT 57 (fun k => w.heap.size ≤ k) w' p ⟨n, 0, 0, []⟩ ∧ Below w.heap.size w w' :=
  (rnew_any n w).mono fun e w' h1 => by unfold RNewPost at h1; rw [if_pos h] at h1; exact h1
theorem rnew_no {n : Int} (h : ¬ (1 ≤ n ∧ n ≤ 65537)) (w : World) : Calls Try.prog 8 #[.int .i64 n] w fun e w' => e = .returned (.tuple #[.pointer none, .int .i64 1]) ∧ w = w' :=
  (rnew_any n w).mono fun e w' h1 => by unfold RNewPost at h1; rw [if_neg h] at h1; exact h1
theorem same_self (p : Pk) (A A' : Option Addr) (c c' : Nat) (w : World) (hy : Byt w A p.body) (hy' : Byt w A' p.body) :
    Calls Try.prog 14 #[.agg #[.int .i64 p.id, .int .i64 p.fr, .int .i64 p.dst, .slice A p.body.length c], .agg #[.int .i64 p.id, .int .i64 p.fr, .int .i64 p.dst, .slice A' p.body.length c']] w fun e w' => e = .returned (.bool true) ∧ Below w.heap.size w w' := by
  have := same_any p p A A' c c' w hy hy'
  rw [sameB_self] at this
  exact this
theorem far_drop {s : St} {i : Int} {k : Nat} (h : Far s k) : Far (dropS s i).2 (k + 1) := by
  obtain ⟨h1, h2⟩ := cnt_drop s i
  exact ⟨by rw [h2]; have := h.last; omega, by rw [h1]; have := h.cnt; omega⟩
theorem far_part {s : St} {a b : Int} {k : Nat} (h : Far s k) : Far (partS s a b).2 (k + 1) := by
  obtain ⟨h1, h2⟩ := cnt_part s a b
  exact ⟨by rw [h2]; have := h.last; omega, by rw [h1]; have := h.cnt; omega⟩
theorem far_take {s : St} {i : Int} {q : Pk} {k : Nat} (h : Far s k) (hq : s.l[idx s.l i]? = some q) : Far (takeS s i) (k + 1) := by
  have h1 := cnt_take hq
  exact ⟨by show s.last ≤ _; have := h.last; omega, by have := h.cnt; omega⟩
def UInt8s (xs : List Value) : Prop := ∀ u ∈ xs, ∃ y : Int, u = .int .u8 y
theorem u8s_map (b : List UInt8) : UInt8s (b.map u8v) := fun u hu => by obtain ⟨c, _, rfl⟩ := List.mem_map.1 hu; exact ⟨_, rfl⟩
theorem u8s_set {xs : List Value} (h : UInt8s xs) (j : Nat) (y : Int) : UInt8s (xs.set j (.int .u8 y)) := fun u hu => by
  rcases List.mem_or_eq_of_mem_set hu with h1 | h1
  · exact h u h1
  · exact ⟨y, h1⟩
set_option maxHeartbeats 32000000 in
set_option maxRecDepth 20000 in
theorem law_does (n : Int) (A0 : Option Addr) (l : List NOp) (m c0 : Nat) (w : World) (hl : NOps w A0 l) (hn : l.length = m) (hm : m ≤ 140737488351232) (hr : ∀ (i : Nat) (h : i < l.length), l[i].bl.length ≤ 140737488351232) :
    Calls Try.prog 3 #[.int .i64 n, .slice A0 m c0] w fun e w' => e = .returned (.bool true) ∧ Below w.heap.size w w' := by
  have HLi := Lib.hid (fun V => nlives_any V)
  by_cases hp : 1 ≤ n ∧ n ≤ 65537
  · have HNw := Lib.hid (new_yes hp w)
    have HRw := Lib.hid (fun V => rnew_yes hp V)
    have HL := Lib.hid hl
    have HLn := Lib.hid hn
    have HRc := Lib.hid hr
    obtain ⟨i0, hinfo, hz0, hz1, hz2⟩ := info_parts u8_info
    clear hl hn hp hr
    go_enter Try.func3, Try.ntmps3
    go_wp2_with (first
      | (go_at_call 7; refine Calls.mono HNw.out ?_; rintro e w1 ⟨q, rfl, hn1, hb1⟩; have HN1 := Lib.hid hn1; have HB1 := Lib.hid hb1; clear hn1 hb1)
      | (go_at_call 8; refine Calls.mono (HRw.out _) ?_; rintro e w2 ⟨x, rfl, hn2, hb2⟩; have HX2 := Lib.hid (nb_start HN1.out HB1.out hn2 hb2); clear hn2 hb2)
      | (go_at_call 9; refine Calls.mono (HLi.out _) ?_; rintro e w3 ⟨rfl, hb3⟩; have HX3 := Lib.hid ((HX2.out.later hb3).less (P' := fun _ => False) (fun _ h => h.elim)); clear hb3))
    go_loopw [9] (fun iv wr => ∃ (k : Nat) (s : St), k ≤ m ∧ iv = .int .i64 (k : Int) ∧ Hid (NB w (fun _ => False) q x s s wr) ∧ Hid (Far s k)) (fun iv _ => m - (intOf iv).toNat)
    case atStart => exact ⟨0, ⟨n, 0, 0, []⟩, Nat.zero_le _, rfl, HX3, Lib.hid ⟨Int.le_refl 0, Int.le_refl 0⟩⟩
    case round =>
      clear HX3 HX2 HN1 HB1 HNw HRw
      obtain ⟨k, s, hkn, rfl, HX, HFa⟩ := hrel
      have hkz : (0 : Int) ≤ (k : Int) := by omega
      by_cases hk1 : k < m
      · have hk1' : (k : Int) < (m : Int) := by omega
        have hh : k < l.length := by rw [HLn.out]; exact hk1
        obtain ⟨g, o, rfl, ⟨p0, p1, p2, p3⟩, hfit⟩ := HL.out k hh
        have r0 := cell_later HX.out.below p0
        have r1 := cell_later HX.out.below p1
        have r2 := cell_later HX.out.below p2
        have r3 := cell_later HX.out.below p3
        have HRl := Lib.hid (HRc.out k hh)
        have HY := Lib.hid hfit.y
        obtain ⟨z, hz⟩ : ∃ z, z = l[k] := ⟨_, rfl⟩
        rw [← hz] at r0 r1 r2 r3 HRl HY
        clear p0 p1 p2 p3 hfit hz hh
        obtain ⟨x0, hx0⟩ : ∃ y, y = z.kind := ⟨_, rfl⟩
        rw [← hx0] at r0
        clear hx0
        obtain ⟨W0, hW0⟩ : ∃ W0, W0 = wr.alloc (.cells #[.int .i64 x0, .int .i64 z.a, .int .i64 z.b, .slice z.bA z.bl.length z.bc] 33) := ⟨_, rfl⟩
        have k0 : W0.heap[wr.heap.size]? = some (.cells #[.int .i64 x0, .int .i64 z.a, .int .i64 z.b, .slice z.bA z.bl.length z.bc] 33 (0, 0)) := by rw [hW0]; exact heap_new wr _
        have hz0' : W0.heap.size = wr.heap.size + 1 := by rw [hW0]; simp
        have HB0 : Hid (NB w (fun j => j = wr.heap.size) q x s s W0) := Lib.hid ((HX.out.later (show Below wr.heap.size wr W0 by rw [hW0]; exact below_alloc _ _)).less (fun j hj => .inr ⟨by omega, by omega⟩))
        have HW0 := Lib.hid hW0
        have HO0 := Lib.hid k0
        have hl1 := HFa.out.last
        have hl2 := HFa.out.lost
        have hg := HB0.out.ok.lost0
        have hwb : w.heap.size ≤ wr.heap.size := HX.out.below.size
        have HWb := Lib.hid hwb
        have b00 := cell_of_row _ _ 0 _ _ _ k0
        have b01 := cell_of_row _ _ 1 _ _ _ k0
        have b02 := cell_of_row _ _ 2 _ _ _ k0
        have b03 := cell_of_row _ _ 3 _ _ _ k0
        have HZ0 := Lib.hid hz0'
        clear hW0 hz0' hwb k0
        by_cases h1 : x0 = 1
        · subst h1
          obtain ⟨s3, hs3⟩ : ∃ t, t = (sendS s z.a z.b z.bl).2 := ⟨_, rfl⟩
          obtain ⟨q1, hq1⟩ : ∃ t, t = (sendS s z.a z.b z.bl).1.1 := ⟨_, rfl⟩
          obtain ⟨q2, hq2⟩ : ∃ t, t = (sendS s z.a z.b z.bl).1.2 := ⟨_, rfl⟩
          have HF3 : Hid (Far s3 (k + 1)) := Lib.hid (by rw [hs3]; exact HFa.out.step (step_send s z.a z.b z.bl))
          obtain ⟨bo, hbo⟩ : ∃ b, b = wr.heap.size := ⟨_, rfl⟩
          rw [← hbo] at HB0 HO0 HZ0 HWb b00 b01 b02 b03
          have HBo := Lib.hid hbo
          have hzl := HRl.out
          have HCn := Lib.hid (fun (P : Nat → Prop) (V : World) (A : Option Addr) (c : Nat) (hy : Byt V A z.bl) (h : NB w P q x s s V) (hP : ∀ j, P j → j < V.heap.size) => h.callNet hP (fun F A1 c1 vs hx => send_any hx z.a z.b A z.bl c hy (by omega) (by omega) (by omega)))
          have HCr := Lib.hid (fun (P : Nat → Prop) (V : World) (h : NB w P q x s3 s V) (hP : ∀ j, P j → j < V.heap.size) => h.callRef hP (fun F A1 c1 vs hx => rsend_any hx z.a z.b z.bA z.bl z.bc (HY.out.later h.below) (by omega) (by omega) (by omega)))
          rw [← hs3, ← hq1, ← hq2] at HCn HCr
          clear hs3 hq1 hq2 hbo
          have HBa : Hid (Below W0.heap.size W0 (W0.alloc (.cells #[] 5))) := Lib.hid (below_alloc _ _)
          have HYa : Hid (Byt (W0.alloc (.cells #[] 5)) z.bA z.bl) := Lib.hid ((HY.out.later HB0.out.below).later HBa.out)
          have k0 := HO0.out
          have kb := heap_old (.cells #[] 5) (heap_lt k0) k0
          have HKb := Lib.hid kb
          have ba0 := cell_of_row _ _ 0 _ _ _ kb
          have ba1 := cell_of_row _ _ 1 _ _ _ kb
          have ba2 := cell_of_row _ _ 2 _ _ _ kb
          have ba3 := cell_of_row _ _ 3 _ _ _ kb
          clear k0 kb
          obtain ⟨N, hN⟩ : ∃ N, N = z.bl.length := ⟨_, rfl⟩
          have HNl := Lib.hid hN
          rw [← hN] at hzl
          clear hN
          go_wp2_with (first
            | (rw [← HW0.out, ← HBo.out])
            | (at_builtin; refine wpList_append_k _ (by rfl) (.tmp 72) (.tmp 74) 31 (by rfl) 5 i0 (.int .u8 0) 1 1 Try.underlying31 hinfo hz0 hz1 hz2 rfl (by decide) W0.heap.size (.slice (some ⟨W0.heap.size, 0, none⟩) 0 0) 0 [] (by rfl) (World.ownsRow_made W0 #[] 0 (Nat.le_refl _) (Nat.zero_le _) rfl) z.bA z.bl.length z.bc (z.bl.map u8v) (by rfl) (by simp) (byt_src HYa.out) (u8v_one z.bl) (by have := HRl.out; unfold maxLen; omega) (by have := HRl.out; omega) (by simp) ?_; intro AY cy w2 hown hgrow _; simp only [Nat.zero_add, List.nil_append] at hown ⊢; have HB2r : Hid (Below W0.heap.size W0 w2) := Lib.hid (HBa.out.grown hgrow HBa.out.size (fun j e => Nat.le_of_eq (Option.some.inj e))); have HR2 := Lib.hid hown; have HB2 : Hid (NB w (fun j => j = bo ∨ (W0.heap.size ≤ j ∧ j < w2.heap.size)) q x s s w2) := Lib.hid (HB0.out.later HB2r.out); have k2 := (HB2r.out.block _ (heap_lt HO0.out)).trans HO0.out; have HO2 := Lib.hid k2; have HP2 : Hid (∀ j, (j = bo ∨ (W0.heap.size ≤ j ∧ j < w2.heap.size)) → j < w2.heap.size) := Lib.hid (fun j hj => hj.elim (fun e => e ▸ heap_lt HO2.out) (fun h => h.2)); have b20 := cell_of_row _ _ 0 _ _ _ k2; have b21 := cell_of_row _ _ 1 _ _ _ k2; have b22 := cell_of_row _ _ 2 _ _ _ k2; have b23 := cell_of_row _ _ 3 _ _ _ k2; clear hown hgrow k2)
            | (go_at_call 10; refine Calls.mono (HCn.out _ w2 AY cy (own_byt_any HR2.out) HB2.out HP2.out) ?_; rintro e w3 ⟨rfl, hn3, ha3⟩; have HB3 := Lib.hid hn3; have k3 := ha3.heap HO2.out (fun h => h.1 (.inl rfl)); have HO3 := Lib.hid k3; have HR3 := Lib.hid (own_moved HR2.out ha3 (fun j hj h => h.1 (.inr (HR2.out.lt j hj)))); have HS3 : Hid (w2.heap.size ≤ w3.heap.size) := Lib.hid ha3.size; have b30 := cell_of_row _ _ 0 _ _ _ k3; have b31 := cell_of_row _ _ 1 _ _ _ k3; have b32 := cell_of_row _ _ 2 _ _ _ k3; have b33 := cell_of_row _ _ 3 _ _ _ k3; clear hn3 ha3 k3))
          rw [← HNl.out] at HR2 HR3 ⊢
          have HG : Hid (∀ j, (Value.slice AY N cy).ownBlock = some j → W0.heap.size ≤ j ∧ j < w2.heap.size) := Lib.hid (fun j hj => HR2.out.lt j hj)
          go_loopw [15] (fun iv wv => ∃ (j : Nat) (xs : List Value), j ≤ N ∧ iv = .int .i64 (j : Int) ∧ Hid (UInt8s xs) ∧ Hid (NB w (fun j => j = bo ∨ (W0.heap.size ≤ j ∧ j < w2.heap.size)) q x s3 s wv) ∧ Hid (wv.ownsRow W0.heap.size 5 1 (.slice AY N cy) N xs) ∧ Hid (wv.heap[bo]? = some (.cells #[.int .i64 1, .int .i64 z.a, .int .i64 z.b, .slice z.bA z.bl.length z.bc] 33 (0, 0))) ∧ Hid (w2.heap.size ≤ wv.heap.size)) (fun iv _ => N - (intOf iv).toNat)
          case atStart => exact ⟨0, z.bl.map u8v, Nat.zero_le _, rfl, Lib.hid (u8s_map _), HB3, HR3, HO3, HS3⟩
          case round =>
            obtain ⟨j, xs, hjn, rfl, HU, HBj, HRj, HOj, HSj⟩ := hrel
            have hjz : (0 : Int) ≤ (j : Int) := by omega
            by_cases hj : j < N
            · have hj' : (j : Int) < (N : Int) := by omega
              obtain ⟨g, rfl, hc⟩ := own_cell HRj.out rfl j (by omega)
              have hjx : j < xs.length := by have := HRj.out.1; omega
              obtain ⟨y, hy⟩ := HU.out xs[j] (List.getElem_mem _)
              rw [List.getElem?_eq_getElem hjx, hy] at hc
              have hfz : wr.frozen? ⟨g, j, none⟩ = false := by
                rcases HRj.out.2 with ⟨h0, _⟩ | ⟨g2, cap, cur, h0, _, hg2, _⟩
                · cases h0
                · injection h0 with h0 _ _; injection h0 with h0; injection h0 with h0; subst h0
                  exact (cells_of_heap hg2).2 _
              have hgl := HG.out g rfl
              have HNx : Hid (∀ y2 : Int, UInt8s (xs.set j (.int .u8 y2)) ∧ NB w (fun j => j = bo ∨ (W0.heap.size ≤ j ∧ j < w2.heap.size)) q x s3 s (wr.setCell ⟨g, j, none⟩ (.int .u8 y2)) ∧ (wr.setCell ⟨g, j, none⟩ (.int .u8 y2)).ownsRow W0.heap.size 5 1 (.slice (some ⟨g, 0, none⟩) N cy) N (xs.set j (.int .u8 y2)) ∧ (wr.setCell ⟨g, j, none⟩ (.int .u8 y2)).heap[bo]? = some (.cells #[.int .i64 1, .int .i64 z.a, .int .i64 z.b, .slice z.bA z.bl.length z.bc] 33 (0, 0)) ∧ w2.heap.size ≤ (wr.setCell ⟨g, j, none⟩ (.int .u8 y2)).heap.size) := Lib.hid (fun y2 => by
                have hm : Moved (fun i => i = g) wr (wr.setCell ⟨g, j, none⟩ (.int .u8 y2)) := Moved.setCell (p := fun i => i = g) (Moved.refl _ _) (.inr (rfl : g = g)) _
                refine ⟨u8s_set HU.out j y2, HBj.out.own hm (.inr hgl) (by have := HWb.out; have := HZ0.out; omega), own_set HRj.out (by omega) _, hm.heap HOj.out (fun e => by have := HZ0.out; have e : bo = g := e; omega), Nat.le_trans HSj.out hm.size⟩)
              clear hjx hy hgl
              go_wp2
              go_roundw
              case rel => exact ⟨j + 1, _, by omega, by go_num, Lib.hid (HNx.out _).1, Lib.hid (HNx.out _).2.1, Lib.hid (HNx.out _).2.2.1, Lib.hid (HNx.out _).2.2.2.1, Lib.hid (HNx.out _).2.2.2.2⟩
              case measure => simp [intOf]; omega
            · have hj' : ¬ (j : Int) < (N : Int) := by omega
              have kj := HOj.out
              have bj0 := cell_of_row _ _ 0 _ _ _ kj
              have bj1 := cell_of_row _ _ 1 _ _ _ kj
              have bj2 := cell_of_row _ _ 2 _ _ _ kj
              have bj3 := cell_of_row _ _ 3 _ _ _ kj
              clear kj b00 b01 b02 b03 ba0 ba1 ba2 ba3 b20 b21 b22 b23 b30 b31 b32 b33
              have HPj : Hid (∀ i, (i = bo ∨ (W0.heap.size ≤ i ∧ i < w2.heap.size)) → i < wr.heap.size) := Lib.hid (fun i hi => hi.elim (fun e => e ▸ heap_lt HOj.out) (fun h => Nat.lt_of_lt_of_le h.2 HSj.out))
              go_wp2_with (first
                | (go_at_call 11; refine Calls.mono (HCr.out _ wr HBj.out HPj.out) ?_; rintro e w4 ⟨rfl, hn4, ha4⟩; have HB4 := Lib.hid hn4; have k4 := ha4.heap HOj.out (fun h => h.1 (.inl rfl)); have b40 := cell_of_row _ _ 0 _ _ _ k4; have b41 := cell_of_row _ _ 1 _ _ _ k4; have b42 := cell_of_row _ _ 2 _ _ _ k4; have b43 := cell_of_row _ _ 3 _ _ _ k4; clear hn4 ha4 k4)
                | (go_at_call 21; refine Calls.mono (HB4.out.looks _) ?_; rintro e w9 ⟨rfl, hb9⟩; have HB9 := Lib.hid ((HB4.out.later hb9).less (P' := fun _ => False) (fun _ h => h.elim)); clear hb9))
              go_roundw
              case rel => exact ⟨k + 1, s3, by omega, by go_num, HB9, Lib.hid (HF3.out)⟩
              case measure => simp [intOf]; omega
        by_cases h4 : x0 = 4
        · subst h4
          obtain ⟨s3, hs3⟩ : ∃ t, t = (againS s z.a).2 := ⟨_, rfl⟩
          obtain ⟨q1, hq1⟩ : ∃ t, t = (againS s z.a).1.1 := ⟨_, rfl⟩
          obtain ⟨q2, hq2⟩ : ∃ t, t = (againS s z.a).1.2 := ⟨_, rfl⟩
          have HF3 : Hid (Far s3 (k + 1)) := Lib.hid (by rw [hs3]; exact HFa.out.step (step_again s z.a))
          have HCn := Lib.hid (HB0.out.callNet (fun j e => e ▸ heap_lt HO0.out) (fun F A c vs hx => again_any hx z.a (by omega) (by omega)))
          have HCr := Lib.hid (fun (V : World) (h : NB w (fun j => j = wr.heap.size) q x s3 s V) (hP : ∀ j, j = wr.heap.size → j < V.heap.size) => h.callRef hP (fun F A c vs hx => ragain_any hx z.a (by omega) (by omega)))
          rw [← hs3, ← hq1, ← hq2] at HCn HCr
          clear hs3 hq1 hq2
          go_wp2_with (first
            | rw [← HW0.out]
            | (go_at_call 17; refine Calls.mono HCn.out ?_; rintro e w3 ⟨rfl, hn3, ha3⟩; have HB3 := Lib.hid hn3; have k3 := ha3.heap HO0.out (fun h => h.1 rfl); have HO3 := Lib.hid k3; have b30 := cell_of_row _ _ 0 _ _ _ k3; have b31 := cell_of_row _ _ 1 _ _ _ k3; have b32 := cell_of_row _ _ 2 _ _ _ k3; have b33 := cell_of_row _ _ 3 _ _ _ k3; clear hn3 ha3 k3)
            | (go_at_call 18; refine Calls.mono (HCr.out w3 HB3.out (fun j e => e ▸ heap_lt HO3.out)) ?_; rintro e w4 ⟨rfl, hn4, ha4⟩; have HB4 := Lib.hid hn4; have k4 := ha4.heap HO3.out (fun h => h.1 rfl); have HO4 := Lib.hid k4; have b40 := cell_of_row _ _ 0 _ _ _ k4; have b41 := cell_of_row _ _ 1 _ _ _ k4; have b42 := cell_of_row _ _ 2 _ _ _ k4; have b43 := cell_of_row _ _ 3 _ _ _ k4; clear hn4 ha4 k4)
            | (go_at_call 21; refine Calls.mono (HB4.out.looks _) ?_; rintro e w9 ⟨rfl, hb9⟩; have HB9 := Lib.hid ((HB4.out.later hb9).less (P' := fun _ => False) (fun _ h => h.elim)); clear hb9))
          go_roundw
          case rel => exact ⟨k + 1, s3, by omega, by go_num, HB9, Lib.hid (HF3.out)⟩
          case measure => simp [intOf]; omega
        by_cases h3 : x0 = 3
        · subst h3
          obtain ⟨s3, hs3⟩ : ∃ t, t = (dropS s z.a).2 := ⟨_, rfl⟩
          obtain ⟨q1, hq1⟩ : ∃ t, t = (dropS s z.a).1 := ⟨_, rfl⟩
          have HF3 : Hid (Far s3 (k + 1)) := Lib.hid (by rw [hs3]; exact far_drop HFa.out)
          have HBd : Hid (NB w (fun j => j = wr.heap.size) q x s s W0.drew) := Lib.hid ((HB0.out.later (Below.refl _ _).drew).less (fun j hj => .inl hj))
          have HOd : Hid (W0.drew.heap[wr.heap.size]? = some (.cells #[.int .i64 3, .int .i64 z.a, .int .i64 z.b, .slice z.bA z.bl.length z.bc] 33 (0, 0))) := HO0
          have HCn := Lib.hid (HBd.out.callNet (fun j e => e ▸ heap_lt HOd.out) (fun F A c vs hx => drop_any hx z.a (by omega)))
          have HCr := Lib.hid (fun (V : World) (h : NB w (fun j => j = wr.heap.size) q x s3 s V) (hP : ∀ j, j = wr.heap.size → j < V.heap.size) => h.callRef hP (fun F A c vs hx => rdrop_any hx z.a (by omega)))
          rw [← hs3, ← hq1] at HCn HCr
          clear hs3 hq1
          go_wp2_with (rw [← HW0.out])
          refine wp_region_held_drew (S := (fun V => V.cell? ⟨wr.heap.size, 1, none⟩ = some (.int .i64 z.a))) (by kernel_rfl) (cell_of_row _ _ 1 _ _ _ HOd.out) (fun hHeld => ?_)
          refine wpAnyH_take (i := 0) (v := ?vv1) rfl (by kernel_rfl) (by kernel_rfl) (by kernel_rfl) (fun _ _ _ h => h) (Or.inl ⟨by rfl, ?hy1⟩) hHeld ?rr1
          case hy1 => (intro w' hSw; have g1 := hSw; go_simp; try with_reducible rfl)
          try simp only [Act.put, List.setIfInBounds_toArray, List.set_cons_zero, List.set_cons_succ, List.getElem_toArray, List.getElem_cons_succ, List.getElem_cons_zero]
          refine wpAnyH_take (i := 1) (v := ?vv2) rfl (by kernel_rfl) (by kernel_rfl) (by kernel_rfl) (fun _ _ _ h => h) (Or.inl ⟨by rfl, ?hy2⟩) hHeld ?rr2
          case hy2 => (intro w' hSw; have g1 := hSw; go_simp; try with_reducible rfl)
          try simp only [Act.put, List.setIfInBounds_toArray, List.set_cons_zero, List.set_cons_succ, List.getElem_toArray, List.getElem_cons_succ, List.getElem_cons_zero]
          refine wpAnyH_take (i := 2) (v := ?vv3) rfl (by kernel_rfl) (by kernel_rfl) (by kernel_rfl) (fun _ _ _ h => h) (Or.inl ⟨by rfl, ?hy3⟩) hHeld ?rr3
          case hy3 => (intro w' hSw; have g1 := hSw; go_simp; try with_reducible rfl)
          try simp only [Act.put, List.setIfInBounds_toArray, List.set_cons_zero, List.set_cons_succ, List.getElem_toArray, List.getElem_cons_succ, List.getElem_cons_zero]
          refine wpAnyH_take (i := 4) (v := ?vv4) rfl (by kernel_rfl) (by kernel_rfl) (by kernel_rfl) (fun _ _ _ h => h) (Or.inl ⟨by rfl, ?hy4⟩) hHeld ?rr4
          case hy4 => (intro w' hSw; have g1 := hSw; go_simp; try with_reducible rfl)
          try simp only [Act.put, List.setIfInBounds_toArray, List.set_cons_zero, List.set_cons_succ, List.getElem_toArray, List.getElem_cons_succ, List.getElem_cons_zero]
          refine wpAnyH_take (i := 5) (v := ?vv5) rfl (by kernel_rfl) (by kernel_rfl) (by kernel_rfl) (fun _ _ _ h => h) (Or.inl ⟨by rfl, ?hy5⟩) hHeld ?rr5
          case hy5 => (intro w' hSw; have g1 := hSw; go_simp; try with_reducible rfl)
          try simp only [Act.put, List.setIfInBounds_toArray, List.set_cons_zero, List.set_cons_succ, List.getElem_toArray, List.getElem_cons_succ, List.getElem_cons_zero]
          refine wpAnyH_take (i := 6) (v := ?vv6) rfl (by kernel_rfl) (by kernel_rfl) (by kernel_rfl) (fun _ _ _ h => h) (Or.inl ⟨by rfl, ?hy6⟩) hHeld ?rr6
          case hy6 => (intro w' hSw; have g1 := hSw; go_simp; try with_reducible rfl)
          try simp only [Act.put, List.setIfInBounds_toArray, List.set_cons_zero, List.set_cons_succ, List.getElem_toArray, List.getElem_cons_succ, List.getElem_cons_zero]
          refine wpAnyH_ready (rs := [3]) (by kernel_rfl) (by simp) ?_
          refine AllReadyH.cons rfl (fun K hK => ?_) AllReadyH.nil
          try rw [if_pos (by rfl)]
          go_simp
          go_at_call 15
          refine Calls.mono (HCn.out) ?_
          rintro e w3 ⟨rfl, hn3, ha3⟩
          have HB3 := Lib.hid hn3
          have k3 := ha3.heap HOd.out (fun h => h.1 rfl)
          have HO3 := Lib.hid k3
          clear hn3 ha3 k3
          go_wp2_with fail
          refine hK.out _ _ (cell_of_row _ _ 1 _ _ _ HO3.out) (fun hHeld2 => ?_)
          clear hK K hHeld
          have hHeld := hHeld2
          clear hHeld2
          try simp only [Act.put, List.setIfInBounds_toArray, List.set_cons_zero, List.set_cons_succ, List.getElem_toArray, List.getElem_cons_succ, List.getElem_cons_zero]
          refine wpAnyH_ready (rs := [7]) (by kernel_rfl) (by simp) ?_
          refine AllReadyH.cons rfl (fun K hK => ?_) AllReadyH.nil
          try rw [if_pos (by rfl)]
          go_simp
          go_at_call 16
          refine Calls.mono (HCr.out w3 HB3.out (fun j e => e ▸ heap_lt HO3.out)) ?_
          rintro e w4 ⟨rfl, hn4, ha4⟩
          have HB4 := Lib.hid hn4
          have k4 := ha4.heap HO3.out (fun h => h.1 rfl)
          have HO4 := Lib.hid k4
          clear hn4 ha4 k4
          go_wp2_with fail
          refine hK.out _ _ (cell_of_row _ _ 1 _ _ _ HO4.out) (fun hHeld2 => ?_)
          clear hK K hHeld
          have hHeld := hHeld2
          clear hHeld2
          try simp only [Act.put, List.setIfInBounds_toArray, List.set_cons_zero, List.set_cons_succ, List.getElem_toArray, List.getElem_cons_succ, List.getElem_cons_zero]
          refine wpAnyH_take (i := 8) (v := ?vv7) rfl (by kernel_rfl) (by kernel_rfl) (by kernel_rfl) (fun _ _ _ h => h) (Or.inl ⟨by rfl, ?hy7⟩) hHeld ?rr7
          case hy7 => (intro w' hSw; have g1 := hSw; go_simp; try with_reducible rfl)
          try simp only [Act.put, List.setIfInBounds_toArray, List.set_cons_zero, List.set_cons_succ, List.getElem_toArray, List.getElem_cons_succ, List.getElem_cons_zero]
          refine wpAnyH_take (i := 9) (v := ?vv8) rfl (by kernel_rfl) (by kernel_rfl) (by kernel_rfl) (fun _ _ _ h => h) (Or.inl ⟨by rfl, ?hy8⟩) hHeld ?rr8
          case hy8 => (intro w' hSw; have g1 := hSw; go_simp; try with_reducible rfl)
          try simp only [Act.put, List.setIfInBounds_toArray, List.set_cons_zero, List.set_cons_succ, List.getElem_toArray, List.getElem_cons_succ, List.getElem_cons_zero]
          refine wpAnyH_done (by kernel_rfl) ?_ _
          clear hHeld
          have k4 := HO4.out
          clear b00 b01 b02 b03
          have b40 := cell_of_row _ _ 0 _ _ _ k4
          have b41 := cell_of_row _ _ 1 _ _ _ k4
          have b42 := cell_of_row _ _ 2 _ _ _ k4
          have b43 := cell_of_row _ _ 3 _ _ _ k4
          clear k4
          go_wp2_with (go_at_call 21; refine Calls.mono (HB4.out.looks _) ?_; rintro e w9 ⟨rfl, hb9⟩; have HB9 := Lib.hid ((HB4.out.later hb9).less (P' := fun _ => False) (fun _ h => h.elim)); clear hb9)
          go_roundw
          case rel => exact ⟨k + 1, s3, by omega, by go_num, HB9, Lib.hid (HF3.out)⟩
          case measure => simp [intOf]; omega
        by_cases h5 : x0 = 5
        · subst h5
          obtain ⟨s3, hs3⟩ : ∃ t, t = (partS s z.a z.b).2 := ⟨_, rfl⟩
          obtain ⟨q1, hq1⟩ : ∃ t, t = (partS s z.a z.b).1.1 := ⟨_, rfl⟩
          obtain ⟨q2, hq2⟩ : ∃ t, t = (partS s z.a z.b).1.2 := ⟨_, rfl⟩
          have HF3 : Hid (Far s3 (k + 1)) := Lib.hid (by rw [hs3]; exact far_part HFa.out)
          have HCn := Lib.hid (HB0.out.callNet (fun j e => e ▸ heap_lt HO0.out) (fun F A c vs hx => part_any hx z.a z.b (by omega)))
          have HCr := Lib.hid (fun (V : World) (h : NB w (fun j => j = wr.heap.size) q x s3 s V) (hP : ∀ j, j = wr.heap.size → j < V.heap.size) => h.callRef hP (fun F A c vs hx => rpart_any hx z.a z.b (by omega)))
          rw [← hs3, ← hq1, ← hq2] at HCn HCr
          clear hs3 hq1 hq2
          go_wp2_with (first
            | rw [← HW0.out]
            | (go_at_call 19; refine Calls.mono HCn.out ?_; rintro e w3 ⟨rfl, hn3, ha3⟩; have HB3 := Lib.hid hn3; have k3 := ha3.heap HO0.out (fun h => h.1 rfl); have HO3 := Lib.hid k3; have b30 := cell_of_row _ _ 0 _ _ _ k3; have b31 := cell_of_row _ _ 1 _ _ _ k3; have b32 := cell_of_row _ _ 2 _ _ _ k3; have b33 := cell_of_row _ _ 3 _ _ _ k3; clear hn3 ha3 k3)
            | (go_at_call 20; refine Calls.mono (HCr.out w3 HB3.out (fun j e => e ▸ heap_lt HO3.out)) ?_; rintro e w4 ⟨rfl, hn4, ha4⟩; have HB4 := Lib.hid hn4; have k4 := ha4.heap HO3.out (fun h => h.1 rfl); have HO4 := Lib.hid k4; have b40 := cell_of_row _ _ 0 _ _ _ k4; have b41 := cell_of_row _ _ 1 _ _ _ k4; have b42 := cell_of_row _ _ 2 _ _ _ k4; have b43 := cell_of_row _ _ 3 _ _ _ k4; clear hn4 ha4 k4)
            | (go_at_call 21; refine Calls.mono (HB4.out.looks _) ?_; rintro e w9 ⟨rfl, hb9⟩; have HB9 := Lib.hid ((HB4.out.later hb9).less (P' := fun _ => False) (fun _ h => h.elim)); clear hb9))
          go_roundw
          case rel => exact ⟨k + 1, s3, by omega, by go_num, HB9, Lib.hid (HF3.out)⟩
          case measure => simp [intOf]; omega
        by_cases h2 : x0 = 2
        · subst h2
          rcases hq : s.l[idx s.l z.a]? with _ | pk
          · have HF3 : Hid (Far s (k + 1)) := Lib.hid HFa.out.more
            have HQ := Lib.hid hq
            have HCn : Hid (Calls Try.prog 12 #[.pointer (some ⟨q, 0, none⟩), .int .i64 z.a] W0 fun e V' => e = .returned (.tuple #[.agg #[.int .i64 0, .int .i64 0, .int .i64 0, .slice none 0 0], .int .i64 4]) ∧ NB w (fun j => j = wr.heap.size) q x s s V' ∧ Apart w (fun j => j = wr.heap.size) W0 V') := Lib.hid ((HB0.out.takeNet (fun j e => e ▸ heap_lt HO0.out) z.a).mono fun e V' h => by obtain ⟨he, hn, ha⟩ := h.2 HQ.out; exact ⟨he, hn, ha⟩)
            have HCr : Hid (∀ (P : Nat → Prop) (V : World), NB w P q x s s V → (∀ j, P j → j < V.heap.size) → Calls Try.prog 13 #[.pointer (some ⟨x, 0, none⟩), .int .i64 z.a] V fun e V' => (∀ A0 bs, Byt V A0 bs → Byt V' A0 bs) ∧ e = .returned (.tuple #[.agg #[.int .i64 0, .int .i64 0, .int .i64 0, .slice none 0 0], .int .i64 4]) ∧ NB w P q x s s V' ∧ Apart w P V V') := Lib.hid (fun P V hb hP => (hb.takeRef hP z.a).mono fun e V' ⟨hk, h1, h2⟩ => by obtain ⟨he, hn, ha⟩ := h2 HQ.out; exact ⟨hk, he, hn, ha⟩)
            clear hq
            go_wp2_with (first
              | rw [← HW0.out]
              | (go_at_call 12; refine Calls.mono HCn.out ?_; rintro e w3 ⟨rfl, hn3, ha3⟩; have HB3 : Hid (NB w (fun j => j = wr.heap.size ∨ j = w3.heap.size) q x s s (w3.alloc (.cells #[.int .i64 0, .int .i64 0, .int .i64 0, .slice none 0 0] 37))) := Lib.hid ((hn3.later (below_alloc w3 (.cells #[.int .i64 0, .int .i64 0, .int .i64 0, .slice none 0 0] 37))).less (fun j hj => hj.imp id (fun e => ⟨Nat.le_of_eq e.symm, by rw [World.size_alloc]; omega⟩))); have k3 := heap_old (.cells #[.int .i64 0, .int .i64 0, .int .i64 0, .slice none 0 0] 37) (heap_lt (ha3.heap HO0.out (fun h => h.1 rfl))) (ha3.heap HO0.out (fun h => h.1 rfl)); have HO3 := Lib.hid k3; have HK3 := Lib.hid (heap_new w3 (.cells #[.int .i64 0, .int .i64 0, .int .i64 0, .slice none 0 0] 37)); have HP3 : Hid (∀ j, (j = wr.heap.size ∨ j = w3.heap.size) → j < (w3.alloc (.cells #[.int .i64 0, .int .i64 0, .int .i64 0, .slice none 0 0] 37)).heap.size) := Lib.hid (fun j hj => hj.elim (fun e => e ▸ heap_lt HO3.out) (fun e => e ▸ heap_lt HK3.out)); have b30 := cell_of_row _ _ 0 _ _ _ k3; have b31 := cell_of_row _ _ 1 _ _ _ k3; have b32 := cell_of_row _ _ 2 _ _ _ k3; have b33 := cell_of_row _ _ 3 _ _ _ k3; clear hn3 ha3 k3)
              | (go_at_call 13; refine Calls.mono (HCr.out _ _ HB3.out HP3.out) ?_; rintro e w4 ⟨hk4, rfl, hn4, ha4⟩; have HB4 := Lib.hid (hn4.later (below_alloc w4 (.cells #[.int .i64 0, .int .i64 0, .int .i64 0, .slice none 0 0] 37))); have k4 := ha4.heap HO3.out (fun h => h.1 (.inl rfl)); have k5 := ha4.heap HK3.out (fun h => h.1 (.inr rfl)); have HO4 := Lib.hid (heap_old (.cells #[.int .i64 0, .int .i64 0, .int .i64 0, .slice none 0 0] 37) (heap_lt k4) k4); have k7 := heap_old (.cells #[.int .i64 0, .int .i64 0, .int .i64 0, .slice none 0 0] 37) (heap_lt k5) k5; have k8 := heap_new w4 (.cells #[.int .i64 0, .int .i64 0, .int .i64 0, .slice none 0 0] 37); have b70 := cell_of_row _ _ 0 _ _ _ k7; have b71 := cell_of_row _ _ 1 _ _ _ k7; have b72 := cell_of_row _ _ 2 _ _ _ k7; have b73 := cell_of_row _ _ 3 _ _ _ k7; have b80 := cell_of_row _ _ 0 _ _ _ k8; have b81 := cell_of_row _ _ 1 _ _ _ k8; have b82 := cell_of_row _ _ 2 _ _ _ k8; have b83 := cell_of_row _ _ 3 _ _ _ k8; clear hn4 ha4 hk4 k4 k5 k7 k8)
              | (go_at_call 14; refine Calls.mono (same_self (⟨0, 0, 0, []⟩ : Pk) none none 0 0 _ (Byt.nil _ _) (Byt.nil _ _)) ?_; rintro e w5 ⟨rfl, hb5⟩; have HB5 := Lib.hid (HB4.out.later hb5); have k6 := (hb5.block _ (heap_lt HO4.out)).trans HO4.out; have HO5 := Lib.hid k6; have b60 := cell_of_row _ _ 0 _ _ _ k6; have b61 := cell_of_row _ _ 1 _ _ _ k6; have b62 := cell_of_row _ _ 2 _ _ _ k6; have b63 := cell_of_row _ _ 3 _ _ _ k6; clear hb5 k6)
              | (go_at_call 21; refine Calls.mono (HB5.out.looks _) ?_; rintro e w9 ⟨rfl, hb9⟩; have HB9 := Lib.hid ((HB5.out.later hb9).less (P' := fun _ => False) (fun _ h => h.elim)); clear hb9))
            go_roundw
            case rel => exact ⟨k + 1, s, by omega, by go_num, HB9, Lib.hid (HF3.out)⟩
            case measure => simp [intOf]; omega
          · obtain ⟨s3, hs3⟩ : ∃ t, t = takeS s z.a := ⟨_, rfl⟩
            have HF3 : Hid (Far s3 (k + 1)) := Lib.hid (by rw [hs3]; exact far_take HFa.out hq)
            have HQ := Lib.hid hq
            have HCn : Hid (Calls Try.prog 12 #[.pointer (some ⟨q, 0, none⟩), .int .i64 z.a] W0 fun e V' => ∃ A c, e = .returned (.tuple #[.agg #[.int .i64 pk.id, .int .i64 pk.fr, .int .i64 pk.dst, .slice A pk.body.length c], .int .i64 0]) ∧ Byt V' A pk.body ∧ NB w (fun j => j = wr.heap.size) q x s3 s V' ∧ Apart w (fun j => j = wr.heap.size) W0 V') := Lib.hid ((HB0.out.takeNet (fun j e => e ▸ heap_lt HO0.out) z.a).mono fun e V' h => by obtain ⟨A, c, he, hy, hn, ha⟩ := h.1 pk HQ.out; exact ⟨A, c, he, hy, by have := hn; rw [← hs3] at this; exact this, ha⟩)
            have HCr : Hid (∀ (P : Nat → Prop) (V : World), NB w P q x s3 s V → (∀ j, P j → j < V.heap.size) → Calls Try.prog 13 #[.pointer (some ⟨x, 0, none⟩), .int .i64 z.a] V fun e V' => (∀ A0 bs, Byt V A0 bs → Byt V' A0 bs) ∧ ∃ A c, e = .returned (.tuple #[.agg #[.int .i64 pk.id, .int .i64 pk.fr, .int .i64 pk.dst, .slice A pk.body.length c], .int .i64 0]) ∧ Byt V' A pk.body ∧ NB w P q x s3 s3 V' ∧ Apart w P V V') := Lib.hid (fun P V hb hP => (hb.takeRef hP z.a).mono fun e V' ⟨hk, h1, h2⟩ => by obtain ⟨A, c, he, hy, hn, ha⟩ := h1 pk HQ.out; exact ⟨hk, A, c, he, hy, by have := hn; rw [← hs3] at this; exact this, ha⟩)
            clear hq hs3
            go_wp2_with (first
              | rw [← HW0.out]
              | (go_at_call 12; refine Calls.mono HCn.out ?_; rintro e w3 ⟨A3, c3, rfl, hy3, hn3, ha3⟩; have HB3 : Hid (NB w (fun j => j = wr.heap.size ∨ j = w3.heap.size) q x s3 s (w3.alloc (.cells #[.int .i64 pk.id, .int .i64 pk.fr, .int .i64 pk.dst, .slice A3 pk.body.length c3] 37))) := Lib.hid ((hn3.later (below_alloc w3 (.cells #[.int .i64 pk.id, .int .i64 pk.fr, .int .i64 pk.dst, .slice A3 pk.body.length c3] 37))).less (fun j hj => hj.imp id (fun e => ⟨Nat.le_of_eq e.symm, by rw [World.size_alloc]; omega⟩))); have k3 := heap_old (.cells #[.int .i64 pk.id, .int .i64 pk.fr, .int .i64 pk.dst, .slice A3 pk.body.length c3] 37) (heap_lt (ha3.heap HO0.out (fun h => h.1 rfl))) (ha3.heap HO0.out (fun h => h.1 rfl)); have HO3 := Lib.hid k3; have HK3 := Lib.hid (heap_new w3 (.cells #[.int .i64 pk.id, .int .i64 pk.fr, .int .i64 pk.dst, .slice A3 pk.body.length c3] 37)); have HP3 : Hid (∀ j, (j = wr.heap.size ∨ j = w3.heap.size) → j < (w3.alloc (.cells #[.int .i64 pk.id, .int .i64 pk.fr, .int .i64 pk.dst, .slice A3 pk.body.length c3] 37)).heap.size) := Lib.hid (fun j hj => hj.elim (fun e => e ▸ heap_lt HO3.out) (fun e => e ▸ heap_lt HK3.out)); have HY3 := Lib.hid (hy3.alloc (.cells #[.int .i64 pk.id, .int .i64 pk.fr, .int .i64 pk.dst, .slice A3 pk.body.length c3] 37)); clear hy3; have b30 := cell_of_row _ _ 0 _ _ _ k3; have b31 := cell_of_row _ _ 1 _ _ _ k3; have b32 := cell_of_row _ _ 2 _ _ _ k3; have b33 := cell_of_row _ _ 3 _ _ _ k3; clear hn3 ha3 k3)
              | (go_at_call 13; refine Calls.mono (HCr.out _ _ HB3.out HP3.out) ?_; rintro e w4 ⟨hk4, A4, c4, rfl, hy4, hn4, ha4⟩; have HB4 := Lib.hid (hn4.later (below_alloc w4 (.cells #[.int .i64 pk.id, .int .i64 pk.fr, .int .i64 pk.dst, .slice A4 pk.body.length c4] 37))); have k4 := ha4.heap HO3.out (fun h => h.1 (.inl rfl)); have k5 := ha4.heap HK3.out (fun h => h.1 (.inr rfl)); have HO4 := Lib.hid (heap_old (.cells #[.int .i64 pk.id, .int .i64 pk.fr, .int .i64 pk.dst, .slice A4 pk.body.length c4] 37) (heap_lt k4) k4); have HY4 := Lib.hid (hy4.alloc (.cells #[.int .i64 pk.id, .int .i64 pk.fr, .int .i64 pk.dst, .slice A4 pk.body.length c4] 37)); have HY5 := Lib.hid ((hk4 _ _ HY3.out).alloc (.cells #[.int .i64 pk.id, .int .i64 pk.fr, .int .i64 pk.dst, .slice A4 pk.body.length c4] 37)); clear hy4; have k7 := heap_old (.cells #[.int .i64 pk.id, .int .i64 pk.fr, .int .i64 pk.dst, .slice A4 pk.body.length c4] 37) (heap_lt k5) k5; have k8 := heap_new w4 (.cells #[.int .i64 pk.id, .int .i64 pk.fr, .int .i64 pk.dst, .slice A4 pk.body.length c4] 37); have b70 := cell_of_row _ _ 0 _ _ _ k7; have b71 := cell_of_row _ _ 1 _ _ _ k7; have b72 := cell_of_row _ _ 2 _ _ _ k7; have b73 := cell_of_row _ _ 3 _ _ _ k7; have b80 := cell_of_row _ _ 0 _ _ _ k8; have b81 := cell_of_row _ _ 1 _ _ _ k8; have b82 := cell_of_row _ _ 2 _ _ _ k8; have b83 := cell_of_row _ _ 3 _ _ _ k8; clear hn4 ha4 hk4 k4 k5 k7 k8)
              | (go_at_call 14; refine Calls.mono (same_self pk A3 A4 c3 c4 _ HY5.out HY4.out) ?_; rintro e w5 ⟨rfl, hb5⟩; have HB5 := Lib.hid (HB4.out.later hb5); have k6 := (hb5.block _ (heap_lt HO4.out)).trans HO4.out; have HO5 := Lib.hid k6; have b60 := cell_of_row _ _ 0 _ _ _ k6; have b61 := cell_of_row _ _ 1 _ _ _ k6; have b62 := cell_of_row _ _ 2 _ _ _ k6; have b63 := cell_of_row _ _ 3 _ _ _ k6; clear hb5 k6)
              | (go_at_call 21; refine Calls.mono (HB5.out.looks _) ?_; rintro e w9 ⟨rfl, hb9⟩; have HB9 := Lib.hid ((HB5.out.later hb9).less (P' := fun _ => False) (fun _ h => h.elim)); clear hb9))
            go_roundw
            case rel => exact ⟨k + 1, s3, by omega, by go_num, HB9, Lib.hid (HF3.out)⟩
            case measure => simp [intOf]; omega
        · have e1 : (x0 == 1) = false := by simpa using h1
          have e2 : (x0 == 2) = false := by simpa using h2
          have e3 : (x0 == 3) = false := by simpa using h3
          have e4 : (x0 == 4) = false := by simpa using h4
          have e5 : (x0 == 5) = false := by simpa using h5
          clear h1 h2 h3 h4 h5
          have HF3 : Hid (Far s (k + 1)) := Lib.hid HFa.out.more
          go_wp2_with (first
            | rw [← HW0.out]
            | (go_at_call 21; refine Calls.mono (HB0.out.looks _) ?_; rintro e w9 ⟨rfl, hb9⟩; have HB9 := Lib.hid ((HB0.out.later hb9).less (P' := fun _ => False) (fun _ h => h.elim)); clear hb9))
          go_roundw
          case rel => exact ⟨k + 1, s, by omega, by go_num, HB9, Lib.hid (HF3.out)⟩
          case measure => simp [intOf]; omega
      · have hk1' : ¬ (k : Int) < (m : Int) := by omega
        go_wp2
        go_ret
        exact ⟨rfl, HX.out.below⟩
  · have HNw := Lib.hid (new_no hp w)
    have HRw := Lib.hid (fun V => rnew_no hp V)
    clear hl hn hp hr
    go_enter Try.func3, Try.ntmps3
    go_wp2_with (first
      | (go_at_call 7; refine Calls.mono HNw.out ?_; rintro e w1 ⟨rfl, rfl⟩)
      | (go_at_call 8; refine Calls.mono (HRw.out _) ?_; rintro e w2 ⟨rfl, rfl⟩)
      | (go_at_call 9; refine Calls.mono (HLi.out _) ?_; rintro e w3 ⟨rfl, hb3⟩; have HB3 := Lib.hid hb3; clear hb3))
    go_loopw [9] (fun iv wr => iv = .int .i64 0 ∧ Hid (Below w.heap.size w wr)) (fun iv _ => 0)
    case atStart => exact ⟨rfl, HB3⟩
    case round =>
      obtain ⟨rfl, HBr⟩ := hrel
      by_cases hk1 : 0 < m
      · have hk1' : (0 : Int) < (m : Int) := by omega
        go_wp2
        go_ret
        exact ⟨rfl, HBr.out⟩
      · have hk1' : ¬ (0 : Int) < (m : Int) := by omega
        go_wp2
        go_ret
        exact ⟨rfl, HBr.out⟩
end Go.Proofs.Ytbmadhmcnjcdfaa
