/- Package next: After and Before: the first of all moments on their way. -/
import Derived.Test.YtnijneajlmgkjaaDoorNxtI
import Derived.Test.YtnijneajlmgkjaaDoorNxtP
import Derived.Test.YtnijneajlmgkjaaDoorCroQ
set_option linter.unusedSimpArgs false
set_option linter.unusedVariables false
namespace Go.Proofs.YtnijneajlmgkjaaDoor
open Go.ChangeShapes Go.WideShapes Go.ChangeAt Go.RowKit Go.Base Go.Civ Go.Nxt Go.Cro

def bndB (t : Int) : Int := if t < -62135596800 then -62135596800 else if 253402300799 < t then 253402300799 else t
theorem bounded_any (t : Int) (w : World) : Calls Tryd.prog 28 #[.int .i64 t] w fun e w' => e = .returned (.int .i64 (bndB t)) ∧ w' = w := by
  have H : Hid (bndB t = if t < -62135596800 then -62135596800 else if 253402300799 < t then 253402300799 else t) := Lib.hid rfl
  by_cases h1 : t < -62135596800
  · have h2 : t ≤ -62135596800 := by omega
    go_enter Tryd.func28, Tryd.ntmps28
    go_wp2
    go_ret
    exact ⟨ret_int (by rw [H.out]; split <;> (try split) <;> omega), rfl⟩
  · by_cases h2 : 253402300799 < t
    · go_enter Tryd.func28, Tryd.ntmps28
      go_wp2
      go_ret
      exact ⟨ret_int (by rw [H.out]; split <;> (try split) <;> omega), rfl⟩
    · have h3 : -62135596800 ≤ t := by omega
      have h4 : t ≤ 253402300799 := by omega
      go_enter Tryd.func28, Tryd.ntmps28
      go_wp2
      go_ret
      exact ⟨ret_int (by rw [H.out]; split <;> (try split) <;> omega), rfl⟩

/-- A time. -/
def tmB (t : Int) : Bool := t == bndB t
theorem mayAsk_any (s : Sp) (t : Int) (w : World) (hT : ScTab w) : Calls Tryd.prog 19 #[spV s, .int .i64 t] w fun e w' => e = .returned (.bool (mayB s && tmB t)) ∧ Below w.heap.size w w' := by
  have HM := Lib.hid (may_any s (w.alloc (.cells (specC s.mi s.ho s.da s.mo s.we s.ad s.aw) 24)) (hT.later (below_alloc w _)))
  have HB := Lib.hid (fun V => bounded_any t V)
  have H : Hid (tmB t = (t == bndB t)) := Lib.hid rfl
  clear hT
  generalize mayB s = b at *
  cases b
  all_goals
    obtain ⟨smi, sho, sda, smo, swe, ad, aw⟩ := s
    simp only [spV] at HM ⊢
    go_enter Tryd.func19, Tryd.ntmps19
    go_wp2_with (first | (go_at_call 17; refine HM.out.mono ?_; rintro e w1 ⟨rfl, hb1⟩; have HB1 := Lib.hid hb1; clear hb1) | (go_at_call 28; refine (HB.out _).mono ?_; rintro e w2 ⟨rfl, hw2⟩; rw [hw2]; clear hw2 w2))
    go_ret
    exact ⟨ret_bool (by simp [H.out]), (below_alloc w _).trans (HB1.out.mono (by simp))⟩

/-- All moments from one on, on a way, in order. -/
def Run (d : Bool) (s : Sp) (H M : Nat) (t : Int) (L : List Int) : Prop := L.Pairwise (ltd d) ∧ ∀ x, x ∈ L ↔ Mt s H M x ∧ if d then t ≤ x else x ≤ t
theorem mt_bd {s : Sp} {H M : Nat} (hH : Under H 24) (hM : Under M 60) {x : Int} (h : Mt s H M x) : -62135596800 ≤ x ∧ x ≤ 253402300740 ∧ x % 60 = 0 := by
  obtain ⟨m, v, h, mi, a, b, c, d, e, rfl⟩ := h
  have h9 := (mdays_in s m).2 v c
  have h8 := midA_bd a b h9.1 h9.2
  have h7 := midA_eq m v
  have := hH.2 h d
  have := hM.2 mi e
  omega
theorem ltd_ext {d : Bool} {l1 l2 : List Int} (h1 : l1.Pairwise (ltd d)) (h2 : l2.Pairwise (ltd d)) (h : ∀ x, x ∈ l1 ↔ x ∈ l2) : l1 = l2 := by
  cases d
  · have e := sorted_ext (l1 := l1.reverse) (l2 := l2.reverse) (List.pairwise_reverse.2 (h1.imp (by simp [ltd]))) (List.pairwise_reverse.2 (h2.imp (by simp [ltd]))) (fun x => by simp [h])
    simpa using e
  · exact sorted_ext (h1.imp (by simp [ltd])) (h2.imp (by simp [ltd])) h
theorem Run.unique {d : Bool} {s : Sp} {H M : Nat} {t : Int} {L L' : List Int} (h : Run d s H M t L) (h' : Run d s H M t L') : L = L' := ltd_ext h.1 h'.1 (fun x => (h.2 x).trans (h'.2 x).symm)
/-- The program's variables as it begins. -/
structure Vars (w : World) : Prop where
  tz : TzTab w
  tab : Tab w
  sc : ScTab w
theorem Vars.later {w w' : World} (h : Vars w) (hb : Below w.heap.size w w') : Vars w' := ⟨h.tz.later hb, h.tab.later hb, h.sc.later hb⟩
theorem Vars.g1 {w : World} (h : Vars w) : 1 < w.heap.size := World.block_lt_of_cell? w _ (h.tz 0 (by decide))
theorem Vars.g2 {w : World} (h : Vars w) : 2 < w.heap.size := World.block_lt_of_cell? w _ (h.tab 0 (by decide))

theorem run_fw (s : Sp) (hs : SpOk s) (H M : Nat) (hM : s.mi = M) (hH : s.ho = H) (uH : Under H 24) (uM : Under M 60) (t : Int) (h60 : t % 60 = 0) (hlo : -62135596800 ≤ t) :
    ∃ L, Run true s H M t L ∧ ∀ (pt pw ps : Nat) (w : World), w.heap[pt]? = some (.cells #[.int .i64 t] 3 (0, 0)) → w.heap[pw]? = some (.cells fwC 45 (0, 0)) → w.heap[ps]? = some (.cells (specC s.mi s.ho s.da s.mo s.we s.ad s.aw) 24 (0, 0)) → Vars w →
      ∃ C : Nat → Prop, (∀ k, C k → k < w.heap.size) ∧ SeqO Fence.wide 99 Tryd.prog 47 #[ptrV pt, ptrV pw, ptrV ps] encI C L w := by
  by_cases hin : -62135596800 ≤ t ∧ t ≤ 253402300799
  · obtain ⟨n, y, k, sec, hAt⟩ := at_of t hin.1 hin.2
    have hd := at_date hAt
    have hs0 := hAt.s0
    have hs1 := hAt.s1
    have hday := hAt.day
    obtain ⟨dd, hdd⟩ : ∃ dd : Nat, n + 719162 - ah y - cum y k + 1 = dd := ⟨(n + 719162 - ah y - cum y k + 1).toNat, by omega⟩
    obtain ⟨hh, hhh⟩ : ∃ hh : Nat, sec / 3600 = hh := ⟨(sec / 3600).toNat, by omega⟩
    obtain ⟨mm, hmm⟩ : ∃ mm : Nat, sec % 3600 / 60 = mm := ⟨(sec % 3600 / 60).toNat, by omega⟩
    refine ⟨_, ⟨momL_sorted uH uM (y * 12 + ((k : Int) + 1) - 1) dd (fl t 86400) hh mm (by omega), fun x => momL_mem uH uM hAt (by omega) hdd hhh hmm x⟩, fun pt pw ps w k1 k2 k3 hv => ?_⟩
    refine ⟨_, fun k hk => ?_, mom_fw 99 (by omega) s hs M H hM hH t n y k dd hh mm sec hAt hdd hhh hmm pt pw ps w k1 k2 k3 hv.tz hv.tab hv.g1 hv.g2⟩
    rcases hk with rfl | rfl | rfl | rfl | rfl
    · exact heap_lt k2
    · exact heap_lt k3
    · exact heap_lt k1
    · exact hv.g1
    · exact hv.g2
  · refine ⟨[], ⟨List.Pairwise.nil, fun x => ?_⟩, fun pt pw ps w k1 k2 k3 hv => ⟨fun _ => False, fun _ h => h.elim, momNo_fw 99 (by omega) t (by omega) _ pt pw ps w k1⟩⟩
    simp only [List.not_mem_nil, false_iff]
    rintro ⟨h1, h2⟩
    have := mt_bd uH uM h1
    simp at h2
    omega

theorem run_bw (s : Sp) (hs : SpOk s) (H M : Nat) (hM : s.mi = M) (hH : s.ho = H) (uH : Under H 24) (uM : Under M 60) (t : Int) (h60 : t % 60 = 0) (hlo : t ≤ 253402300799) :
    ∃ L, Run false s H M t L ∧ ∀ (pt pw ps : Nat) (w : World), w.heap[pt]? = some (.cells #[.int .i64 t] 3 (0, 0)) → w.heap[pw]? = some (.cells bwC 45 (0, 0)) → w.heap[ps]? = some (.cells (specC s.mi s.ho s.da s.mo s.we s.ad s.aw) 24 (0, 0)) → Vars w →
      ∃ C : Nat → Prop, (∀ k, C k → k < w.heap.size) ∧ SeqO Fence.wide 99 Tryd.prog 47 #[ptrV pt, ptrV pw, ptrV ps] encI C L w := by
  by_cases hin : -62135596800 ≤ t ∧ t ≤ 253402300799
  · obtain ⟨n, y, k, sec, hAt⟩ := at_of t hin.1 hin.2
    have hd := at_date hAt
    have hs0 := hAt.s0
    have hs1 := hAt.s1
    have hday := hAt.day
    obtain ⟨dd, hdd⟩ : ∃ dd : Nat, n + 719162 - ah y - cum y k + 1 = dd := ⟨(n + 719162 - ah y - cum y k + 1).toNat, by omega⟩
    obtain ⟨hh, hhh⟩ : ∃ hh : Nat, sec / 3600 = hh := ⟨(sec / 3600).toNat, by omega⟩
    obtain ⟨mm, hmm⟩ : ∃ mm : Nat, sec % 3600 / 60 = mm := ⟨(sec % 3600 / 60).toNat, by omega⟩
    refine ⟨_, ⟨momL_sorted uH uM (y * 12 + ((k : Int) + 1) - 1) dd (fl t 86400) hh mm (by omega), fun x => momL_mem uH uM hAt (by omega) hdd hhh hmm x⟩, fun pt pw ps w k1 k2 k3 hv => ?_⟩
    refine ⟨_, fun k hk => ?_, mom_bw 99 (by omega) s hs M H hM hH t n y k dd hh mm sec hAt hdd hhh hmm pt pw ps w k1 k2 k3 hv.tz hv.tab hv.g1 hv.g2⟩
    rcases hk with rfl | rfl | rfl | rfl | rfl
    · exact heap_lt k2
    · exact heap_lt k3
    · exact heap_lt k1
    · exact hv.g1
    · exact hv.g2
  · refine ⟨[], ⟨List.Pairwise.nil, fun x => ?_⟩, fun pt pw ps w k1 k2 k3 hv => ⟨fun _ => False, fun _ h => h.elim, momNo_bw 99 (by omega) t (by omega) _ pt pw ps w k1⟩⟩
    simp only [List.not_mem_nil, false_iff]
    rintro ⟨h1, h2⟩
    have := mt_bd uH uM h1
    simp at h2
    omega

theorem after_no (s : Sp) (t : Int) (h : (mayB s && tmB t) = false) (w : World) (hv : Vars w) : Calls Tryd.prog 9 #[spV s, .int .i64 t] w fun e w' => e = .returned (.tuple #[.int .i64 0, .int .i64 1]) ∧ Below w.heap.size w w' := by
  have HM := Lib.hid (mayAsk_any s t (w.alloc (.cells (specC s.mi s.ho s.da s.mo s.we s.ad s.aw) 24)) (hv.sc.later (below_alloc w _)))
  rw [h] at HM
  clear hv h
  obtain ⟨smi, sho, sda, smo, swe, ad, aw⟩ := s
  simp only [spV] at HM ⊢
  go_enter Tryd.func9, Tryd.ntmps9
  go_wp2_with (go_at_call 19; refine HM.out.mono ?_; rintro e w1 ⟨rfl, hb1⟩; have HB1 := Lib.hid hb1; clear hb1)
  go_ret2
  exact ⟨rfl, (below_alloc w _).trans (HB1.out.mono (by simp))⟩

set_option maxHeartbeats 4000000 in
set_option maxRecDepth 100000 in
theorem after_any (s : Sp) (hs : SpOk s) (H M : Nat) (hM : s.mi = M) (hH : s.ho = H) (uH : Under H 24) (uM : Under M 60) (hm : mayB s = true) (t : Int) (ht1 : -62135596800 ≤ t) (ht2 : t ≤ 253402300799) :
    ∃ L, Run true s H M (fl t 60 + 60) L ∧ ∀ w, Vars w → Calls Tryd.prog 9 #[spV s, .int .i64 t] w fun e w' => e = .returned (fstV L) ∧ Below w.heap.size w w' := by
  have hfl : fl t 60 = t - t % 60 := by unfold fl; rw [if_neg (by omega), if_neg (by omega)]
  obtain ⟨L, hrun, hseq⟩ := run_fw s hs H M hM hH uH uM (fl t 60 + 60) (by rw [hfl]; omega) (by rw [hfl]; omega)
  refine ⟨L, hrun, fun w hv => ?_⟩
  have htm : tmB t = true := by unfold tmB bndB; rw [if_neg (by omega), if_neg (by omega)]; simp
  have HMa := Lib.hid (mayAsk_any s t (w.alloc (.cells (specC s.mi s.ho s.da s.mo s.we s.ad s.aw) 24)) (hv.sc.later (below_alloc w _)))
  rw [hm, htm] at HMa
  have HFl := Lib.hid (fun V => floor_any t 60 V (by omega) (by omega) (by omega))
  have HV := Lib.hid hv
  have HSq := Lib.hid hseq
  have HE : Hid (fl t 60 = t - t % 60) := Lib.hid hfl
  have hbd : -62135596860 ≤ fl t 60 ∧ fl t 60 ≤ 253402300800 := by rw [hfl]; omega
  obtain ⟨a, b, hab⟩ : ∃ a b : Int, fstV L = .tuple #[.int .i64 a, .int .i64 b] := by
    cases L with
    | nil => exact ⟨_, _, rfl⟩
    | cons x L => exact ⟨_, _, rfl⟩
  have HAB := Lib.hid hab
  rw [hab]
  clear hv hseq hrun hab htm hfl hm hM hH uH uM
  generalize fl t 60 = T0 at *
  obtain ⟨hb1, hb2⟩ := hbd
  obtain ⟨smi, sho, sda, smo, swe, ad, aw⟩ := s
  simp only [spV] at HMa HSq ⊢
  go_enter Tryd.func9, Tryd.ntmps9
  go_wp2_with (go_at_call 19; refine HMa.out.mono ?_; rintro e w1 ⟨rfl, hb1⟩; have HB1 := Lib.hid ((below_alloc w _).trans (hb1.mono (by simp))); have hsp := (hb1.block _ (by simp)).trans (heap_new w _); have HSp := Lib.hid hsp; clear hb1 hsp)
  have hwr : IntKind.i64.wrap (T0 + 60) = T0 + 60 := by simp [IntKind.wrap, IntKind.signed, IntKind.bits]; omega
  have hS0 : (fun V : World => V.heap[w.heap.size]? = some (.cells (specC smi sho sda smo swe ad aw) 24 (0, 0))) w1.drew := HSp.out
  refine wp_region_held_drew (S := (fun V : World => V.heap[w.heap.size]? = some (.cells (specC smi sho sda smo swe ad aw) 24 (0, 0)))) (by kernel_rfl) hS0 (fun hHeld => ?_)
  refine wpAnyH_take (i := 1) (v := (spV ⟨smi, sho, sda, smo, swe, ad, aw⟩)) rfl (by kernel_rfl) (by kernel_rfl) (by kernel_rfl) (fun _ _ _ h => h) (Or.inl ⟨by rfl, ?hy1⟩) hHeld ?rr1
  case hy1 => (intro w' hSw; have q1 := (cells_of_heap hSw).1; go_simp; try with_reducible rfl; try exact hwr)
  try simp only [Act.put, List.setIfInBounds_toArray, List.set_cons_zero, List.set_cons_succ, List.getElem_toArray, List.getElem_cons_succ, List.getElem_cons_zero]
  refine wpAnyH_take (i := 2) (v := (.int .i64 t)) rfl (by kernel_rfl) (by kernel_rfl) (by kernel_rfl) (fun _ _ _ h => h) (Or.inl ⟨by rfl, ?hy2⟩) hHeld ?rr2
  case hy2 => (intro w' hSw; have q1 := (cells_of_heap hSw).1; go_simp; try with_reducible rfl; try exact hwr)
  try simp only [Act.put, List.setIfInBounds_toArray, List.set_cons_zero, List.set_cons_succ, List.getElem_toArray, List.getElem_cons_succ, List.getElem_cons_zero]
  refine wpAnyH_ready (rs := [0]) (by kernel_rfl) (by simp) ?_
  refine AllReadyH.cons rfl (fun K hK => ?_) AllReadyH.nil
  try rw [if_pos (by rfl)]
  go_simp
  go_at_call 21
  refine Calls.mono (fw_any _) ?_
  rintro e w2 ⟨rfl, hb2⟩
  have HB2 := Lib.hid (HB1.out.drew.trans (hb2.mono (show w.heap.size ≤ w1.heap.size by have := HB1.out.size; omega)))
  have hsp2 := (hb2.block _ (show w.heap.size < w1.heap.size from heap_lt HSp.out)).trans hHeld
  have HSp2 := Lib.hid hsp2
  clear hb2 hsp2
  go_wp2_with fail
  refine hK.out _ _ HSp2.out (fun hHeld2 => ?_)
  clear hK K hHeld
  have hHeld := hHeld2
  clear hHeld2
  try simp only [Act.put, List.setIfInBounds_toArray, List.set_cons_zero, List.set_cons_succ, List.getElem_toArray, List.getElem_cons_succ, List.getElem_cons_zero]
  refine wpAnyH_ready (rs := [3]) (by kernel_rfl) (by simp) ?_
  refine AllReadyH.cons rfl (fun K hK => ?_) AllReadyH.nil
  try rw [if_pos (by rfl)]
  go_simp
  go_at_call 23
  refine Calls.mono (HFl.out _) ?_
  rintro e w3 ⟨rfl, hw3⟩; rw [← hw3]; clear hw3 w3
  go_wp2_with fail
  refine hK.out _ _ hHeld (fun hHeld2 => ?_)
  clear hK K hHeld
  have hHeld := hHeld2
  clear hHeld2
  try simp only [Act.put, List.setIfInBounds_toArray, List.set_cons_zero, List.set_cons_succ, List.getElem_toArray, List.getElem_cons_succ, List.getElem_cons_zero]
  refine wpAnyH_take (i := 4) (v := (.int .i64 (T0 + 60))) rfl (by kernel_rfl) (by kernel_rfl) (by kernel_rfl) (fun _ _ _ h => h) (Or.inl ⟨by rfl, ?hy3⟩) hHeld ?rr3
  case hy3 => (intro w' hSw; have q1 := (cells_of_heap hSw).1; go_simp; try with_reducible rfl; try exact hwr)
  try simp only [Act.put, List.setIfInBounds_toArray, List.set_cons_zero, List.set_cons_succ, List.getElem_toArray, List.getElem_cons_succ, List.getElem_cons_zero]
  refine wpAnyH_ready (rs := [5]) (by kernel_rfl) (by simp) ?_
  refine AllReadyH.cons rfl (fun K hK => ?_) AllReadyH.nil
  try rw [if_pos (by rfl)]
  go_simp
  go_at_call 22
  refine Calls.mono (momMk_fw smi sho sda smo swe ad aw (T0 + 60) _) ?_
  rintro e w5 ⟨rfl, hw5⟩
  have hB5 : Below w.heap.size w w5 := by rw [hw5]; exact (((HB2.out.alloc HB2.out.size _).alloc (by simp; have := HB2.out.size; omega) _).alloc (by simp; have := HB2.out.size; omega) _)
  have z5 : w5.heap.size = w2.heap.size + 3 := by rw [hw5]; simp
  have y0 : w5.heap[w2.heap.size]? = some (.cells fwC 45 (0, 0)) := by rw [hw5]; exact heap_old _ (by simp; omega) (heap_old _ (by simp) (heap_new w2 _))
  have y1 : w5.heap[w2.heap.size + 1]? = some (.cells (specC smi sho sda smo swe ad aw) 24 (0, 0)) := by
    rw [hw5]
    have h8 := heap_new (w2.alloc (.cells fwC 45)) (.cells (specC smi sho sda smo swe ad aw) 24)
    rw [World.size_alloc] at h8; exact heap_old _ (by simp) h8
  have y2 : w5.heap[w2.heap.size + 2]? = some (.cells #[.int .i64 (T0 + 60)] 3 (0, 0)) := by
    rw [hw5]
    have h8 := heap_new ((w2.alloc (.cells fwC 45)).alloc (.cells (specC smi sho sda smo swe ad aw) 24)) (.cells #[.int .i64 (T0 + 60)] 3)
    rw [World.size_alloc, World.size_alloc] at h8; exact h8
  obtain ⟨C, hC, hsq⟩ := HSq.out (w2.heap.size + 2) w2.heap.size (w2.heap.size + 1) w5 y2 y0 y1 (HV.out.later hB5)
  have HFi := Lib.hid (callsIn_wide.1 (first_any _ C L w5 hC hsq))
  have HS5 : Hid (w5.heap[w.heap.size]? = some (.cells (specC smi sho sda smo swe ad aw) 24 (0, 0))) := Lib.hid (by rw [hw5]; exact heap_old _ (by simp; have := heap_lt HSp2.out; omega) (heap_old _ (by simp; have := heap_lt HSp2.out; omega) (heap_old _ (heap_lt HSp2.out) HSp2.out)))
  have HB5 := Lib.hid hB5
  clear hw5 y0 y1 y2 hsq hC hB5
  go_wp2_with fail
  refine hK.out _ _ HS5.out (fun hHeld2 => ?_)
  clear hK K hHeld
  have hHeld := hHeld2
  clear hHeld2
  try simp only [Act.put, List.setIfInBounds_toArray, List.set_cons_zero, List.set_cons_succ, List.getElem_toArray, List.getElem_cons_succ, List.getElem_cons_zero]
  refine wpAnyH_ready (rs := [6]) (by kernel_rfl) (by simp) ?_
  refine AllReadyH.cons rfl (fun K hK => ?_) AllReadyH.nil
  try rw [if_pos (by rfl)]
  go_simp
  go_at_call 20
  refine Calls.mono HFi.out ?_
  rintro e w6 ⟨rfl, hb6⟩
  have hsp6 := (hb6.block _ (heap_lt HS5.out)).trans HS5.out
  have HB6 := Lib.hid (HB5.out.trans (hb6.mono HB5.out.size))
  have HS6 := Lib.hid hsp6
  clear hb6 hsp6
  rw [HAB.out]
  go_wp2_with fail
  refine hK.out _ _ HS6.out (fun hHeld2 => ?_)
  clear hK K hHeld
  have hHeld := hHeld2
  clear hHeld2
  try simp only [Act.put, List.setIfInBounds_toArray, List.set_cons_zero, List.set_cons_succ, List.getElem_toArray, List.getElem_cons_succ, List.getElem_cons_zero]
  refine wpAnyH_take (i := 7) (v := (.int .i64 a)) rfl (by kernel_rfl) (by kernel_rfl) (by kernel_rfl) (fun _ _ _ h => h) (Or.inl ⟨by rfl, ?hy4⟩) hHeld ?rr4
  case hy4 => (intro w' hSw; have q1 := (cells_of_heap hSw).1; go_simp; try with_reducible rfl)
  try simp only [Act.put, List.setIfInBounds_toArray, List.set_cons_zero, List.set_cons_succ, List.getElem_toArray, List.getElem_cons_succ, List.getElem_cons_zero]
  refine wpAnyH_take (i := 8) (v := (.int .i64 b)) rfl (by kernel_rfl) (by kernel_rfl) (by kernel_rfl) (fun _ _ _ h => h) (Or.inl ⟨by rfl, ?hy5⟩) hHeld ?rr5
  case hy5 => (intro w' hSw; have q1 := (cells_of_heap hSw).1; go_simp; try with_reducible rfl)
  try simp only [Act.put, List.setIfInBounds_toArray, List.set_cons_zero, List.set_cons_succ, List.getElem_toArray, List.getElem_cons_succ, List.getElem_cons_zero]
  refine wpAnyH_take (i := 9) (v := (.int .i64 a)) rfl (by kernel_rfl) (by kernel_rfl) (by kernel_rfl) (fun _ _ _ h => h) (Or.inl ⟨by rfl, ?hy6⟩) hHeld ?rr6
  case hy6 => (intro w' hSw; have q1 := (cells_of_heap hSw).1; go_simp; try with_reducible rfl)
  try simp only [Act.put, List.setIfInBounds_toArray, List.set_cons_zero, List.set_cons_succ, List.getElem_toArray, List.getElem_cons_succ, List.getElem_cons_zero]
  refine wpAnyH_take (i := 10) (v := (.int .i64 b)) rfl (by kernel_rfl) (by kernel_rfl) (by kernel_rfl) (fun _ _ _ h => h) (Or.inl ⟨by rfl, ?hy7⟩) hHeld ?rr7
  case hy7 => (intro w' hSw; have q1 := (cells_of_heap hSw).1; go_simp; try with_reducible rfl)
  try simp only [Act.put, List.setIfInBounds_toArray, List.set_cons_zero, List.set_cons_succ, List.getElem_toArray, List.getElem_cons_succ, List.getElem_cons_zero]
  refine wpAnyH_done (by kernel_rfl) ?_ _
  clear hHeld
  go_wp2
  go_ret2
  exact ⟨rfl, HB6.out⟩

theorem before_no (s : Sp) (t : Int) (h : (mayB s && tmB t) = false) (w : World) (hv : Vars w) : Calls Tryd.prog 18 #[spV s, .int .i64 t] w fun e w' => e = .returned (.tuple #[.int .i64 0, .int .i64 1]) ∧ Below w.heap.size w w' := by
  have HM := Lib.hid (mayAsk_any s t (w.alloc (.cells (specC s.mi s.ho s.da s.mo s.we s.ad s.aw) 24)) (hv.sc.later (below_alloc w _)))
  rw [h] at HM
  clear hv h
  obtain ⟨smi, sho, sda, smo, swe, ad, aw⟩ := s
  simp only [spV] at HM ⊢
  go_enter Tryd.func18, Tryd.ntmps18
  go_wp2_with (go_at_call 19; refine HM.out.mono ?_; rintro e w1 ⟨rfl, hb1⟩; have HB1 := Lib.hid hb1; clear hb1)
  go_ret2
  exact ⟨rfl, (below_alloc w _).trans (HB1.out.mono (by simp))⟩

set_option maxHeartbeats 4000000 in
set_option maxRecDepth 100000 in
theorem before_any (s : Sp) (hs : SpOk s) (H M : Nat) (hM : s.mi = M) (hH : s.ho = H) (uH : Under H 24) (uM : Under M 60) (hm : mayB s = true) (t : Int) (ht1 : -62135596800 ≤ t) (ht2 : t ≤ 253402300799) :
    ∃ L, Run false s H M (fl (t - 1) 60) L ∧ ∀ w, Vars w → Calls Tryd.prog 18 #[spV s, .int .i64 t] w fun e w' => e = .returned (fstV L) ∧ Below w.heap.size w w' := by
  have hfl : fl (t - 1) 60 = (t - 1) - (t - 1) % 60 := by unfold fl; rw [if_neg (by omega), if_neg (by omega)]
  obtain ⟨L, hrun, hseq⟩ := run_bw s hs H M hM hH uH uM (fl (t - 1) 60) (by rw [hfl]; omega) (by rw [hfl]; omega)
  refine ⟨L, hrun, fun w hv => ?_⟩
  have htm : tmB t = true := by unfold tmB bndB; rw [if_neg (by omega), if_neg (by omega)]; simp
  have HMa := Lib.hid (mayAsk_any s t (w.alloc (.cells (specC s.mi s.ho s.da s.mo s.we s.ad s.aw) 24)) (hv.sc.later (below_alloc w _)))
  rw [hm, htm] at HMa
  have HFl := Lib.hid (fun V => floor_any (t - 1) 60 V (by omega) (by omega) (by omega))
  have HV := Lib.hid hv
  have HSq := Lib.hid hseq
  have HE : Hid (fl (t - 1) 60 = (t - 1) - (t - 1) % 60) := Lib.hid hfl
  have hbd : -62135596860 ≤ fl (t - 1) 60 ∧ fl (t - 1) 60 ≤ 253402300800 := by rw [hfl]; omega
  obtain ⟨a, b, hab⟩ : ∃ a b : Int, fstV L = .tuple #[.int .i64 a, .int .i64 b] := by
    cases L with
    | nil => exact ⟨_, _, rfl⟩
    | cons x L => exact ⟨_, _, rfl⟩
  have HAB := Lib.hid hab
  rw [hab]
  clear hv hseq hrun hab htm hfl hm hM hH uH uM
  generalize fl (t - 1) 60 = T0 at *
  obtain ⟨hb1, hb2⟩ := hbd
  obtain ⟨smi, sho, sda, smo, swe, ad, aw⟩ := s
  simp only [spV] at HMa HSq ⊢
  go_enter Tryd.func18, Tryd.ntmps18
  go_wp2_with (go_at_call 19; refine HMa.out.mono ?_; rintro e w1 ⟨rfl, hb1⟩; have HB1 := Lib.hid ((below_alloc w _).trans (hb1.mono (by simp))); have hsp := (hb1.block _ (by simp)).trans (heap_new w _); have HSp := Lib.hid hsp; clear hb1 hsp)
  have hwr : IntKind.i64.wrap (t - 1) = t - 1 := by simp [IntKind.wrap, IntKind.signed, IntKind.bits]; omega
  have hS0 : (fun V : World => V.heap[w.heap.size]? = some (.cells (specC smi sho sda smo swe ad aw) 24 (0, 0))) w1.drew := HSp.out
  refine wp_region_held_drew (S := (fun V : World => V.heap[w.heap.size]? = some (.cells (specC smi sho sda smo swe ad aw) 24 (0, 0)))) (by kernel_rfl) hS0 (fun hHeld => ?_)
  refine wpAnyH_take (i := 1) (v := (spV ⟨smi, sho, sda, smo, swe, ad, aw⟩)) rfl (by kernel_rfl) (by kernel_rfl) (by kernel_rfl) (fun _ _ _ h => h) (Or.inl ⟨by rfl, ?hy8⟩) hHeld ?rr8
  case hy8 => (intro w' hSw; have q1 := (cells_of_heap hSw).1; go_simp; try with_reducible rfl; try exact hwr)
  try simp only [Act.put, List.setIfInBounds_toArray, List.set_cons_zero, List.set_cons_succ, List.getElem_toArray, List.getElem_cons_succ, List.getElem_cons_zero]
  refine wpAnyH_take (i := 2) (v := (.int .i64 t)) rfl (by kernel_rfl) (by kernel_rfl) (by kernel_rfl) (fun _ _ _ h => h) (Or.inl ⟨by rfl, ?hy9⟩) hHeld ?rr9
  case hy9 => (intro w' hSw; have q1 := (cells_of_heap hSw).1; go_simp; try with_reducible rfl; try exact hwr)
  try simp only [Act.put, List.setIfInBounds_toArray, List.set_cons_zero, List.set_cons_succ, List.getElem_toArray, List.getElem_cons_succ, List.getElem_cons_zero]
  refine wpAnyH_take (i := 3) (v := (.int .i64 (t - 1))) rfl (by kernel_rfl) (by kernel_rfl) (by kernel_rfl) (fun _ _ _ h => h) (Or.inl ⟨by rfl, ?hy10⟩) hHeld ?rr10
  case hy10 => (intro w' hSw; have q1 := (cells_of_heap hSw).1; go_simp; try with_reducible rfl; try exact hwr)
  try simp only [Act.put, List.setIfInBounds_toArray, List.set_cons_zero, List.set_cons_succ, List.getElem_toArray, List.getElem_cons_succ, List.getElem_cons_zero]
  refine wpAnyH_ready (rs := [0]) (by kernel_rfl) (by simp) ?_
  refine AllReadyH.cons rfl (fun K hK => ?_) AllReadyH.nil
  try rw [if_pos (by rfl)]
  go_simp
  go_at_call 43
  refine Calls.mono (bw_any _) ?_
  rintro e w2 ⟨rfl, hb2⟩
  have HB2 := Lib.hid (HB1.out.drew.trans (hb2.mono (show w.heap.size ≤ w1.heap.size by have := HB1.out.size; omega)))
  have hsp2 := (hb2.block _ (show w.heap.size < w1.heap.size from heap_lt HSp.out)).trans hHeld
  have HSp2 := Lib.hid hsp2
  clear hb2 hsp2
  go_wp2_with fail
  refine hK.out _ _ HSp2.out (fun hHeld2 => ?_)
  clear hK K hHeld
  have hHeld := hHeld2
  clear hHeld2
  try simp only [Act.put, List.setIfInBounds_toArray, List.set_cons_zero, List.set_cons_succ, List.getElem_toArray, List.getElem_cons_succ, List.getElem_cons_zero]
  refine wpAnyH_ready (rs := [4]) (by kernel_rfl) (by simp) ?_
  refine AllReadyH.cons rfl (fun K hK => ?_) AllReadyH.nil
  try rw [if_pos (by rfl)]
  go_simp
  go_at_call 23
  refine Calls.mono (HFl.out _) ?_
  rintro e w3 ⟨rfl, hw3⟩; rw [← hw3]; clear hw3 w3
  go_wp2_with fail
  refine hK.out _ _ hHeld (fun hHeld2 => ?_)
  clear hK K hHeld
  have hHeld := hHeld2
  clear hHeld2
  try simp only [Act.put, List.setIfInBounds_toArray, List.set_cons_zero, List.set_cons_succ, List.getElem_toArray, List.getElem_cons_succ, List.getElem_cons_zero]
  refine wpAnyH_ready (rs := [5]) (by kernel_rfl) (by simp) ?_
  refine AllReadyH.cons rfl (fun K hK => ?_) AllReadyH.nil
  try rw [if_pos (by rfl)]
  go_simp
  go_at_call 22
  refine Calls.mono (momMk_bw smi sho sda smo swe ad aw (T0) _) ?_
  rintro e w5 ⟨rfl, hw5⟩
  have hB5 : Below w.heap.size w w5 := by rw [hw5]; exact (((HB2.out.alloc HB2.out.size _).alloc (by simp; have := HB2.out.size; omega) _).alloc (by simp; have := HB2.out.size; omega) _)
  have z5 : w5.heap.size = w2.heap.size + 3 := by rw [hw5]; simp
  have y0 : w5.heap[w2.heap.size]? = some (.cells bwC 45 (0, 0)) := by rw [hw5]; exact heap_old _ (by simp; omega) (heap_old _ (by simp) (heap_new w2 _))
  have y1 : w5.heap[w2.heap.size + 1]? = some (.cells (specC smi sho sda smo swe ad aw) 24 (0, 0)) := by
    rw [hw5]
    have h8 := heap_new (w2.alloc (.cells bwC 45)) (.cells (specC smi sho sda smo swe ad aw) 24)
    rw [World.size_alloc] at h8; exact heap_old _ (by simp) h8
  have y2 : w5.heap[w2.heap.size + 2]? = some (.cells #[.int .i64 (T0)] 3 (0, 0)) := by
    rw [hw5]
    have h8 := heap_new ((w2.alloc (.cells bwC 45)).alloc (.cells (specC smi sho sda smo swe ad aw) 24)) (.cells #[.int .i64 (T0)] 3)
    rw [World.size_alloc, World.size_alloc] at h8; exact h8
  obtain ⟨C, hC, hsq⟩ := HSq.out (w2.heap.size + 2) w2.heap.size (w2.heap.size + 1) w5 y2 y0 y1 (HV.out.later hB5)
  have HFi := Lib.hid (callsIn_wide.1 (first_any _ C L w5 hC hsq))
  have HS5 : Hid (w5.heap[w.heap.size]? = some (.cells (specC smi sho sda smo swe ad aw) 24 (0, 0))) := Lib.hid (by rw [hw5]; exact heap_old _ (by simp; have := heap_lt HSp2.out; omega) (heap_old _ (by simp; have := heap_lt HSp2.out; omega) (heap_old _ (heap_lt HSp2.out) HSp2.out)))
  have HB5 := Lib.hid hB5
  clear hw5 y0 y1 y2 hsq hC hB5
  go_wp2_with fail
  refine hK.out _ _ HS5.out (fun hHeld2 => ?_)
  clear hK K hHeld
  have hHeld := hHeld2
  clear hHeld2
  try simp only [Act.put, List.setIfInBounds_toArray, List.set_cons_zero, List.set_cons_succ, List.getElem_toArray, List.getElem_cons_succ, List.getElem_cons_zero]
  refine wpAnyH_ready (rs := [6]) (by kernel_rfl) (by simp) ?_
  refine AllReadyH.cons rfl (fun K hK => ?_) AllReadyH.nil
  try rw [if_pos (by rfl)]
  go_simp
  go_at_call 20
  refine Calls.mono HFi.out ?_
  rintro e w6 ⟨rfl, hb6⟩
  have hsp6 := (hb6.block _ (heap_lt HS5.out)).trans HS5.out
  have HB6 := Lib.hid (HB5.out.trans (hb6.mono HB5.out.size))
  have HS6 := Lib.hid hsp6
  clear hb6 hsp6
  rw [HAB.out]
  go_wp2_with fail
  refine hK.out _ _ HS6.out (fun hHeld2 => ?_)
  clear hK K hHeld
  have hHeld := hHeld2
  clear hHeld2
  try simp only [Act.put, List.setIfInBounds_toArray, List.set_cons_zero, List.set_cons_succ, List.getElem_toArray, List.getElem_cons_succ, List.getElem_cons_zero]
  refine wpAnyH_take (i := 7) (v := (.int .i64 a)) rfl (by kernel_rfl) (by kernel_rfl) (by kernel_rfl) (fun _ _ _ h => h) (Or.inl ⟨by rfl, ?hy11⟩) hHeld ?rr11
  case hy11 => (intro w' hSw; have q1 := (cells_of_heap hSw).1; go_simp; try with_reducible rfl)
  try simp only [Act.put, List.setIfInBounds_toArray, List.set_cons_zero, List.set_cons_succ, List.getElem_toArray, List.getElem_cons_succ, List.getElem_cons_zero]
  refine wpAnyH_take (i := 8) (v := (.int .i64 b)) rfl (by kernel_rfl) (by kernel_rfl) (by kernel_rfl) (fun _ _ _ h => h) (Or.inl ⟨by rfl, ?hy12⟩) hHeld ?rr12
  case hy12 => (intro w' hSw; have q1 := (cells_of_heap hSw).1; go_simp; try with_reducible rfl)
  try simp only [Act.put, List.setIfInBounds_toArray, List.set_cons_zero, List.set_cons_succ, List.getElem_toArray, List.getElem_cons_succ, List.getElem_cons_zero]
  refine wpAnyH_take (i := 9) (v := (.int .i64 a)) rfl (by kernel_rfl) (by kernel_rfl) (by kernel_rfl) (fun _ _ _ h => h) (Or.inl ⟨by rfl, ?hy13⟩) hHeld ?rr13
  case hy13 => (intro w' hSw; have q1 := (cells_of_heap hSw).1; go_simp; try with_reducible rfl)
  try simp only [Act.put, List.setIfInBounds_toArray, List.set_cons_zero, List.set_cons_succ, List.getElem_toArray, List.getElem_cons_succ, List.getElem_cons_zero]
  refine wpAnyH_take (i := 10) (v := (.int .i64 b)) rfl (by kernel_rfl) (by kernel_rfl) (by kernel_rfl) (fun _ _ _ h => h) (Or.inl ⟨by rfl, ?hy14⟩) hHeld ?rr14
  case hy14 => (intro w' hSw; have q1 := (cells_of_heap hSw).1; go_simp; try with_reducible rfl)
  try simp only [Act.put, List.setIfInBounds_toArray, List.set_cons_zero, List.set_cons_succ, List.getElem_toArray, List.getElem_cons_succ, List.getElem_cons_zero]
  refine wpAnyH_done (by kernel_rfl) ?_ _
  clear hHeld
  go_wp2
  go_ret2
  exact ⟨rfl, HB6.out⟩
end Go.Proofs.YtnijneajlmgkjaaDoor
