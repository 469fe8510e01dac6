/- The laws of layer 17: WaveAll. -/
import Derived.Test.YtcbnankocjlobaaWavM
import Derived.Test.YtcbnankocjlobaaWavOps
set_option linter.unusedSimpArgs false
set_option linter.unusedVariables false
namespace Go.Proofs.Ytcbnankocjlobaa
open Go.ChangeShapes Go.WideShapes Go.ChangeAt Go.RowKit Go.Base Go.Maps

def seven (s : Stp) : Stp := { s with wv := 7 }
def goS (now : Int) (s : Stp) : Bool := s.st == 1 && (!decide (s.un ≤ now) && decide (s.at_ ≤ now))
def lateS (now : Int) (s : Stp) : Bool := s.st == 1 && decide (s.un ≤ now)
theorem flatS_snoc (l : List Stp) (s : Stp) : flatS (l ++ [s]) = flatS l ++ stC s := by simp [flatS]
theorem flatS_len : ∀ l : List Stp, (flatS l).length = l.length * 10
  | [] => rfl
  | s :: l => by
    show (stC s ++ flatS l).length = (l.length + 1) * 10
    rw [List.length_append, flatS_len l, stC_size]; omega
theorem stps_own {w : World} {B n c : Nat} {A : Option Addr} {l : List Stp} (h : w.ownsRow B 41 10 (.slice A n c) n (flatS l)) (hn : n = l.length) : Stps w A l := fun i hi => by
  subst hn
  obtain ⟨g, hA, _⟩ := own_cell h rfl (i * 10) (by omega)
  refine ⟨g, 0, hA, fun j v hv => ?_⟩
  have hj : j < 10 := (List.getElem?_eq_some_iff.1 hv).1
  obtain ⟨g', hA', hc⟩ := own_cell h rfl (i * 10 + j) (by omega)
  rw [hA] at hA'
  injection hA' with hA'
  injection hA' with hg
  subst hg
  rw [Nat.zero_add, hc, flat_at l i l[i] (List.getElem?_eq_getElem hi) j hj, hv]
theorem open_seven (fai : Int) (l : List Stp) (h : ∀ s ∈ l, s.wv = 7) : openB fai l 7 = true := by
  unfold openB
  rw [List.all_eq_true]
  intro s hs
  rw [h s hs]; rfl
theorem infoS : ∃ i, Try.prog.info? 41 = some i ∧ i.zero = some (.agg zSt) ∧ i.size = 10 ∧ i.bytes = 88 := info_parts (by kernel_rfl)
theorem halt_seven (fai : Int) (l : List Stp) (h : ∀ s ∈ l, s.wv = 7) : haltB fai l 7 = false := by
  unfold haltB
  rw [List.any_eq_false]
  intro s hs
  rw [h s hs]; simp
theorem adv_seven (fai : Int) (l : List Stp) (now on : Int) (h : ∀ s ∈ l, s.wv = 7) : ∀ k, k ≤ l.length → (advK fai 0 l now on k).start.length = cnt (goS now) (l.take k) ∧ (advK fai 0 l now on k).skip.length = cnt (lateS now) (l.take k)
  | 0, _ => ⟨rfl, rfl⟩
  | k + 1, hk => by
    obtain ⟨h1, h2⟩ := adv_seven fai l now on h k (by omega)
    have hlt : k < l.length := by omega
    have e : l.getD k default = l[k] := by rw [List.getD_eq_getElem?_getD, List.getElem?_eq_getElem hlt]; rfl
    have hw := h l[k] (List.getElem_mem hlt)
    rw [cnt_take _ l hlt, cnt_take _ l hlt, ← h1, ← h2]
    show (stepAdv fai 0 l now on (advK fai 0 l now on k) k (l.getD k default)).start.length = _ ∧ (stepAdv fai 0 l now on (advK fai 0 l now on k) k (l.getD k default)).skip.length = _
    rw [e]
    unfold stepAdv
    rw [hw, halt_seven fai l h, open_seven fai l h]
    unfold goS lateS roomB
    cases hst : (l[k].st == 1)
    · simp
    · by_cases hun : l[k].un ≤ now
      · simp [hun]
      · by_cases hat : l[k].at_ ≤ now
        · simp [hun, hat]
        · simp [hun, hat]
theorem cnt_map (p : Stp → Bool) (f : Stp → Stp) (h : ∀ s, p (f s) = p s) (l : List Stp) : cnt p (l.map f) = cnt p l := by
  unfold cnt
  rw [List.countP_map]
  congr 1
  funext s
  exact h s
theorem go_seven (now : Int) (s : Stp) : goS now (seven s) = goS now s := rfl
theorem late_seven (now : Int) (s : Stp) : lateS now (seven s) = lateS now s := rfl
theorem seven_world {w wr w5 : World} {k co : Nat} {Ao : Option Addr} {xs : List Value} {C C7 : Array Value} (hs5 : wr.heap.size < w5.heap.size) (hB5 : Below wr.heap.size wr w5) (hg5 : w5.heap[wr.heap.size]? = some (.cells C 41 (0, 0)))
    (hC : C.setIfInBounds 6 (.int .i64 7) = C7) (hO : wr.ownsRow w.heap.size 41 10 (.slice Ao k co) k xs) (hB : Below w.heap.size w wr) :
    ((w5.setCell ⟨wr.heap.size, 6, none⟩ (.int .i64 7)).alloc (.cells C7 41)).heap[wr.heap.size]? = some (.cells C7 41 (0, 0)) ∧
    ((w5.setCell ⟨wr.heap.size, 6, none⟩ (.int .i64 7)).alloc (.cells C7 41)).ownsRow w.heap.size 41 10 (.slice Ao k co) k xs ∧
    Below w.heap.size w ((w5.setCell ⟨wr.heap.size, 6, none⟩ (.int .i64 7)).alloc (.cells C7 41)) ∧
    (∃ ad, some (⟨w5.heap.size, 0, none⟩ : Addr) = some ad ∧ ∀ j u, C7.toList[j]? = some u → ((w5.setCell ⟨wr.heap.size, 6, none⟩ (.int .i64 7)).alloc (.cells C7 41)).cell? (ad.add j) = some u) ∧
    (w5.setCell ⟨wr.heap.size, 6, none⟩ (.int .i64 7)).heap[wr.heap.size]? = some (.cells C7 41 (0, 0)) := by
  have e : (w5.setCell ⟨wr.heap.size, 6, none⟩ (.int .i64 7)).heap.size = w5.heap.size := by simp
  have h1 := heap_set hg5 6 (.int .i64 7)
  rw [hC] at h1
  refine ⟨heap_old _ (by rw [e]; exact hs5) h1, own_moved (p := fun j => j = wr.heap.size) hO ((Moved.setCell (p := fun j => j = wr.heap.size) (Below.movedNew hB5) (.inr rfl) _).alloc _) (fun j hj e => by have := (hO.lt j hj).2; omega), ?_, ?_, h1⟩
  · exact (below_set (hB.trans (hB5.mono hB.size)) hB.size _).alloc (by rw [e]; exact (hB.trans (hB5.mono hB.size)).size) _
  · have h := news_new (w5.setCell ⟨wr.heap.size, 6, none⟩ (.int .i64 7)) C7.toList 41
    rw [e] at h
    exact h
set_option maxHeartbeats 8000000 in
set_option maxRecDepth 20000 in
theorem law_all (A : Option Addr) (l : List Stp) (c : Nat) (now : Int) (w : World) (hS : Stps w A l) (hok : ∀ s ∈ l, s.Ok) :
    Calls Try.prog 6 #[.slice A l.length c, .int .i64 now] w fun e w' => e = .returned (.bool true) ∧ Below w.heap.size w w' := by
  by_cases h100 : (100 : Int) < (l.length : Int)
  · clear hS
    go_enter Try.func6, Try.ntmps6
    go_wp2_with (first | (go_at_call 8; refine (lives_any _).mono ?_; rintro e w1 ⟨rfl, hb⟩) | go_in)
    go_ret
    exact ⟨rfl, hb⟩
  · have hm : l.length ≤ 100 := by omega
    obtain ⟨is, hi, hi0, hi1, hi2⟩ := infoS
    have HS := Lib.hid hS
    have hlm : (l.map seven).length = l.length := by simp
    have hw7 : ∀ s ∈ l.map seven, s.wv = 7 := fun s hs => by obtain ⟨x, _, rfl⟩ := List.mem_map.1 hs; rfl
    have HAd : Hid (∀ V Ao co, Stps V Ao (l.map seven) → Calls Try.prog 10 #[.agg (jobL 0), .slice Ao l.length co, .int .i64 now] V fun e w' => ∃ As cs Ak ck, e = .returned (.agg #[.slice As (cnt (goS now) (l.take l.length)) cs, .slice Ak (cnt (lateS now) (l.take l.length)) ck]) ∧ Below V.heap.size V w') := Lib.hid (fun V Ao co hV => by
      have h := advise_any (jobL 0) 0 0 (ja_L 0 ⟨by decide, by decide⟩) Ao (l.map seven) co now V hV (by rw [hlm]; omega) (fun s hs => by rw [hw7 s hs]; exact ⟨by decide, by decide⟩)
      rw [hlm] at h
      refine h.mono fun e w' ⟨As, cs, Ak, ck, he, _, hb⟩ => ⟨As, cs, Ak, ck, ?_, hb⟩
      have h2 := adv_seven 0 (l.map seven) now (cnt (isS 2) (l.map seven) : Nat) hw7 (l.map seven).length (Nat.le_refl _)
      rw [List.take_length, cnt_map _ _ (go_seven now), cnt_map _ _ (late_seven now)] at h2
      rw [he]
      unfold advR
      rw [h2.1, h2.2, List.take_length])
    have HOp : Hid (∀ V Ao co, Stps V Ao (l.map seven) → Calls Try.prog 17 #[.agg (jobL 0), .slice Ao l.length co, .int .i64 7] V fun e w' => e = .returned (.bool true) ∧ Below V.heap.size V w') := Lib.hid (fun V Ao co hV => by
      have h := open_any (jobL 0) 0 0 (ja_L 0 ⟨by decide, by decide⟩) Ao (l.map seven) co 7 ⟨by decide, by decide⟩ V hV (by rw [hlm]; omega) (fun s hs => by rw [hw7 s hs]; exact ⟨by decide, by decide⟩)
      rw [hlm, open_seven 0 _ hw7] at h
      exact h)
    have HSt : Hid (∀ {V Ao co B}, V.ownsRow B 41 10 (.slice Ao l.length co) l.length (flatS ((l.take l.length).map seven)) → Stps V Ao (l.map seven)) := Lib.hid (fun h => by rw [List.take_length] at h; exact stps_own h (by simp))
    have HT := Lib.hid (fun p k (hk : k < l.length) (b : Bool) (h : p l[k] = b) => (by rw [cnt_take p l hk, h]; cases b <;> rfl : cnt p (l.take (k + 1)) = cnt p (l.take k) + b.toNat))
    have HL : Hid (∀ p k, cnt p (l.take k) ≤ k) := Lib.hid (fun p k => Nat.le_trans (cnt_le _ _) (by rw [List.length_take]; omega))
    have HF : Hid (∀ k (hk : k < l.length), flatS ((l.take (k + 1)).map seven) = flatS ((l.take k).map seven) ++ stC (seven l[k])) := Lib.hid (fun k hk => by rw [List.take_succ_eq_append_getElem hk, List.map_append, List.map_cons, List.map_nil, flatS_snoc])
    have hm' : (l.length : Int) ≤ 100 := by omega
    clear hS hok hw7 hlm
    go_enter Try.func6, Try.ntmps6
    go_wp2
    go_loopw [5, 6, 7, 8] (fun ov sv tv iv wr => ∃ (k : Nat) (Ao : Option Addr) (co : Nat), k ≤ l.length ∧ ov = .slice Ao k co ∧ sv = .int .i64 (cnt (goS now) (l.take k) : Nat) ∧ tv = .int .i64 (cnt (lateS now) (l.take k) : Nat) ∧ iv = .int .i64 (k : Int) ∧ Hid (wr.ownsRow w.heap.size 41 10 (.slice Ao k co) k (flatS ((l.take k).map seven))) ∧ Hid (Below w.heap.size w wr)) (fun _ _ _ iv _ => l.length - (intOf iv).toNat)
    case atStart => exact ⟨0, none, 0, Nat.zero_le _, rfl, rfl, rfl, rfl, Lib.hid (World.ownsRow_nil _ _ _ _), Lib.hid (Below.refl _ _)⟩
    case round =>
      obtain ⟨k, Ao, co, hk, rfl, rfl, rfl, rfl, HO, HB⟩ := hrel
      have b1 := HL.out (goS now) k
      have b2 := HL.out (lateS now) k
      by_cases hlt : k < l.length
      · have hlt' : (k : Int) < (l.length : Int) := by omega
        have hk0 : (0 : Int) ≤ (k : Int) := by omega
        obtain ⟨b, o, rfl, hr⟩ := (HS.out.later HB.out) k hlt
        have HTg := Lib.hid (HT.out (goS now) k hlt)
        have HTl := Lib.hid (HT.out (lateS now) k hlt)
        have HFk := Lib.hid (HF.out k hlt)
        have HR := Lib.hid hr
        have HBe := HB.out.size
        clear hr HAd HOp HSt
        generalize cnt (goS now) (l.take k) = m1 at *
        generalize cnt (lateS now) (l.take k) = m2 at *
        generalize flatS ((l.take k).map seven) = xs at *
        generalize l[k] = s at *
        obtain ⟨job, occ, host, ver, at_, un, wv, st, out, rs⟩ := s
        simp only [stC, seven] at HR HFk
        simp only [goS, lateS] at HTg HTl
        have b1' : (m1 : Int) ≤ 100 := by omega
        have b2' : (m2 : Int) ≤ 100 := by omega
        have HGn : Hid (∀ {j}, (Value.slice Ao k co).ownBlock = some j → w.heap.size ≤ j ∧ j < wr.heap.size) := Lib.hid (fun h => HO.out.lt _ h)
        have hst0 : (st == 1) = false ∨ (st == 1) = true := by cases (st == 1) <;> simp
        rcases hst0 with hst | hst
        · have hst2 : (st != 1) = true := by unfold bne; rw [hst]; rfl
          have U1 : Hid (cnt (goS now) (l.take (k + 1)) = m1) := Lib.hid (HTg.out false (by simp [*]))
          have U2 : Hid (cnt (lateS now) (l.take (k + 1)) = m2) := Lib.hid (HTl.out false (by simp [*]))
          clear HTg HTl
          go_wp2_with (first
            | (refine wpList_load_mid rfl 41 (.tmp 23) rfl b (o + k * 10) rfl [.string ⟨job.toArray⟩, .int .i64 occ, .int .i64 host, .int .i64 ver, .int .i64 at_, .int .i64 un, .int .i64 wv, .int .i64 st, .int .i64 out, .int .i64 rs] _ HR.out Try.underlying41 rfl szSt ?_)
            | (refine wpList_store_new rfl 41 (.tmp 9) (.tmp 24) rfl wr.heap.size #[.string ⟨job.toArray⟩, .int .i64 occ, .int .i64 host, .int .i64 ver, .int .i64 at_, .int .i64 un, .int .i64 wv, .int .i64 st, .int .i64 out, .int .i64 rs] rfl rfl 41 zSt (heap_new wr _) szSt rfl rfl ?_; intro w5 hs5 hb5 hg5 ho5; have HB5 := Lib.hid (hb5 wr.heap.size wr (below_alloc wr _) (Nat.le_refl _)); have HG5 := Lib.hid hg5; have u6 : w5.cell? ⟨wr.heap.size, 6, none⟩ = some (.int .i64 wv) := (cells_of_heap hg5).1 6; have v6 := (cells_of_heap hg5).2 6; have z5 : wr.heap.size < w5.heap.size := (by rw [hs5]; simp); have hsw := seven_world z5 HB5.out hg5 (C7 := #[.string ⟨job.toArray⟩, .int .i64 occ, .int .i64 host, .int .i64 ver, .int .i64 at_, .int .i64 un, .int .i64 7, .int .i64 st, .int .i64 out, .int .i64 rs]) rfl HO.out HB.out; have HG7 := Lib.hid hsw.1; have HO7 := Lib.hid hsw.2.1; have HB7 := Lib.hid hsw.2.2.1; have HN7 := Lib.hid hsw.2.2.2.1; have HH7 := Lib.hid hsw.2.2.2.2; clear hsw; clear hs5 hb5 hg5 ho5)
            | (refine wpList_load_row rfl 41 (.tmp 9) rfl wr.heap.size rfl 41 #[.string ⟨job.toArray⟩, .int .i64 occ, .int .i64 host, .int .i64 ver, .int .i64 at_, .int .i64 un, .int .i64 7, .int .i64 st, .int .i64 out, .int .i64 rs] (0, 0) _ HH7.out Try.underlying41 rfl szSt ?_)
            | (at_builtin; refine wpList_append_k _ rfl (.tmp 27) (.tmp 29) 28 rfl 41 is _ 10 88 Try.underlying28 hi hi0 hi1 hi2 rfl (by decide) w.heap.size _ k xs rfl (HO7.out) (some ⟨w5.heap.size, 0, none⟩) 1 1 [.string ⟨job.toArray⟩, .int .i64 occ, .int .i64 host, .int .i64 ver, .int .i64 at_, .int .i64 un, .int .i64 7, .int .i64 st, .int .i64 out, .int .i64 rs] rfl rfl (fun _ => HN7.out) (by intro u hu; simp at hu; rcases hu with rfl | rfl | rfl | rfl | rfl | rfl | rfl | rfl | rfl | rfl <;> rfl) (by unfold maxLen; omega) (by omega) (HB7.out.size) ?_; intro A' c' w6 ho6 hg6 hn6; have hg8 := (hg6.block wr.heap.size (heap_lt HG7.out) (fun e => by have := (HGn.out e.symm).2; omega)).trans HG7.out; have y4 : w6.cell? ⟨wr.heap.size, 4, none⟩ = some (.int .i64 at_) := (cells_of_heap hg8).1 4; have y5 : w6.cell? ⟨wr.heap.size, 5, none⟩ = some (.int .i64 un) := (cells_of_heap hg8).1 5; have y7 : w6.cell? ⟨wr.heap.size, 7, none⟩ = some (.int .i64 st) := (cells_of_heap hg8).1 7; have HO6 := Lib.hid ho6; have HB6 := Lib.hid (HB7.out.grown hg6 HB7.out.size (fun j hj => (HGn.out hj).1)); clear ho6 hg6 hn6 hg8)
            | go_in)
          go_roundw
          case rel => exact ⟨k + 1, A', c', by omega, rfl, by rw [U1.out], by rw [U2.out], by go_num, Lib.hid (by rw [HFk.out]; exact HO6.out), HB6⟩
          case measure => simp [intOf]; omega
        · have hst2 : (st != 1) = false := by unfold bne; rw [hst]; rfl
          by_cases hun : un ≤ now
          · have U1 : Hid (cnt (goS now) (l.take (k + 1)) = m1) := Lib.hid (HTg.out false (by simp [*]))
            have U2 : Hid (cnt (lateS now) (l.take (k + 1)) = m2 + 1) := Lib.hid (HTl.out true (by simp [*]))
            clear HTg HTl
            go_wp2_with (first
              | (refine wpList_load_mid rfl 41 (.tmp 23) rfl b (o + k * 10) rfl [.string ⟨job.toArray⟩, .int .i64 occ, .int .i64 host, .int .i64 ver, .int .i64 at_, .int .i64 un, .int .i64 wv, .int .i64 st, .int .i64 out, .int .i64 rs] _ HR.out Try.underlying41 rfl szSt ?_)
              | (refine wpList_store_new rfl 41 (.tmp 9) (.tmp 24) rfl wr.heap.size #[.string ⟨job.toArray⟩, .int .i64 occ, .int .i64 host, .int .i64 ver, .int .i64 at_, .int .i64 un, .int .i64 wv, .int .i64 st, .int .i64 out, .int .i64 rs] rfl rfl 41 zSt (heap_new wr _) szSt rfl rfl ?_; intro w5 hs5 hb5 hg5 ho5; have HB5 := Lib.hid (hb5 wr.heap.size wr (below_alloc wr _) (Nat.le_refl _)); have HG5 := Lib.hid hg5; have u6 : w5.cell? ⟨wr.heap.size, 6, none⟩ = some (.int .i64 wv) := (cells_of_heap hg5).1 6; have v6 := (cells_of_heap hg5).2 6; have z5 : wr.heap.size < w5.heap.size := (by rw [hs5]; simp); have hsw := seven_world z5 HB5.out hg5 (C7 := #[.string ⟨job.toArray⟩, .int .i64 occ, .int .i64 host, .int .i64 ver, .int .i64 at_, .int .i64 un, .int .i64 7, .int .i64 st, .int .i64 out, .int .i64 rs]) rfl HO.out HB.out; have HG7 := Lib.hid hsw.1; have HO7 := Lib.hid hsw.2.1; have HB7 := Lib.hid hsw.2.2.1; have HN7 := Lib.hid hsw.2.2.2.1; have HH7 := Lib.hid hsw.2.2.2.2; clear hsw; clear hs5 hb5 hg5 ho5)
              | (refine wpList_load_row rfl 41 (.tmp 9) rfl wr.heap.size rfl 41 #[.string ⟨job.toArray⟩, .int .i64 occ, .int .i64 host, .int .i64 ver, .int .i64 at_, .int .i64 un, .int .i64 7, .int .i64 st, .int .i64 out, .int .i64 rs] (0, 0) _ HH7.out Try.underlying41 rfl szSt ?_)
              | (at_builtin; refine wpList_append_k _ rfl (.tmp 27) (.tmp 29) 28 rfl 41 is _ 10 88 Try.underlying28 hi hi0 hi1 hi2 rfl (by decide) w.heap.size _ k xs rfl (HO7.out) (some ⟨w5.heap.size, 0, none⟩) 1 1 [.string ⟨job.toArray⟩, .int .i64 occ, .int .i64 host, .int .i64 ver, .int .i64 at_, .int .i64 un, .int .i64 7, .int .i64 st, .int .i64 out, .int .i64 rs] rfl rfl (fun _ => HN7.out) (by intro u hu; simp at hu; rcases hu with rfl | rfl | rfl | rfl | rfl | rfl | rfl | rfl | rfl | rfl <;> rfl) (by unfold maxLen; omega) (by omega) (HB7.out.size) ?_; intro A' c' w6 ho6 hg6 hn6; have hg8 := (hg6.block wr.heap.size (heap_lt HG7.out) (fun e => by have := (HGn.out e.symm).2; omega)).trans HG7.out; have y4 : w6.cell? ⟨wr.heap.size, 4, none⟩ = some (.int .i64 at_) := (cells_of_heap hg8).1 4; have y5 : w6.cell? ⟨wr.heap.size, 5, none⟩ = some (.int .i64 un) := (cells_of_heap hg8).1 5; have y7 : w6.cell? ⟨wr.heap.size, 7, none⟩ = some (.int .i64 st) := (cells_of_heap hg8).1 7; have HO6 := Lib.hid ho6; have HB6 := Lib.hid (HB7.out.grown hg6 HB7.out.size (fun j hj => (HGn.out hj).1)); clear ho6 hg6 hn6 hg8)
              | go_in)
            go_roundw
            case rel => exact ⟨k + 1, A', c', by omega, rfl, by rw [U1.out], by rw [U2.out]; go_num, by go_num, Lib.hid (by rw [HFk.out]; exact HO6.out), HB6⟩
            case measure => simp [intOf]; omega
          · by_cases hat : at_ ≤ now
            · have U1 : Hid (cnt (goS now) (l.take (k + 1)) = m1 + 1) := Lib.hid (HTg.out true (by simp [*]))
              have U2 : Hid (cnt (lateS now) (l.take (k + 1)) = m2) := Lib.hid (HTl.out false (by simp [*]))
              clear HTg HTl
              go_wp2_with (first
                | (refine wpList_load_mid rfl 41 (.tmp 23) rfl b (o + k * 10) rfl [.string ⟨job.toArray⟩, .int .i64 occ, .int .i64 host, .int .i64 ver, .int .i64 at_, .int .i64 un, .int .i64 wv, .int .i64 st, .int .i64 out, .int .i64 rs] _ HR.out Try.underlying41 rfl szSt ?_)
                | (refine wpList_store_new rfl 41 (.tmp 9) (.tmp 24) rfl wr.heap.size #[.string ⟨job.toArray⟩, .int .i64 occ, .int .i64 host, .int .i64 ver, .int .i64 at_, .int .i64 un, .int .i64 wv, .int .i64 st, .int .i64 out, .int .i64 rs] rfl rfl 41 zSt (heap_new wr _) szSt rfl rfl ?_; intro w5 hs5 hb5 hg5 ho5; have HB5 := Lib.hid (hb5 wr.heap.size wr (below_alloc wr _) (Nat.le_refl _)); have HG5 := Lib.hid hg5; have u6 : w5.cell? ⟨wr.heap.size, 6, none⟩ = some (.int .i64 wv) := (cells_of_heap hg5).1 6; have v6 := (cells_of_heap hg5).2 6; have z5 : wr.heap.size < w5.heap.size := (by rw [hs5]; simp); have hsw := seven_world z5 HB5.out hg5 (C7 := #[.string ⟨job.toArray⟩, .int .i64 occ, .int .i64 host, .int .i64 ver, .int .i64 at_, .int .i64 un, .int .i64 7, .int .i64 st, .int .i64 out, .int .i64 rs]) rfl HO.out HB.out; have HG7 := Lib.hid hsw.1; have HO7 := Lib.hid hsw.2.1; have HB7 := Lib.hid hsw.2.2.1; have HN7 := Lib.hid hsw.2.2.2.1; have HH7 := Lib.hid hsw.2.2.2.2; clear hsw; clear hs5 hb5 hg5 ho5)
                | (refine wpList_load_row rfl 41 (.tmp 9) rfl wr.heap.size rfl 41 #[.string ⟨job.toArray⟩, .int .i64 occ, .int .i64 host, .int .i64 ver, .int .i64 at_, .int .i64 un, .int .i64 7, .int .i64 st, .int .i64 out, .int .i64 rs] (0, 0) _ HH7.out Try.underlying41 rfl szSt ?_)
                | (at_builtin; refine wpList_append_k _ rfl (.tmp 27) (.tmp 29) 28 rfl 41 is _ 10 88 Try.underlying28 hi hi0 hi1 hi2 rfl (by decide) w.heap.size _ k xs rfl (HO7.out) (some ⟨w5.heap.size, 0, none⟩) 1 1 [.string ⟨job.toArray⟩, .int .i64 occ, .int .i64 host, .int .i64 ver, .int .i64 at_, .int .i64 un, .int .i64 7, .int .i64 st, .int .i64 out, .int .i64 rs] rfl rfl (fun _ => HN7.out) (by intro u hu; simp at hu; rcases hu with rfl | rfl | rfl | rfl | rfl | rfl | rfl | rfl | rfl | rfl <;> rfl) (by unfold maxLen; omega) (by omega) (HB7.out.size) ?_; intro A' c' w6 ho6 hg6 hn6; have hg8 := (hg6.block wr.heap.size (heap_lt HG7.out) (fun e => by have := (HGn.out e.symm).2; omega)).trans HG7.out; have y4 : w6.cell? ⟨wr.heap.size, 4, none⟩ = some (.int .i64 at_) := (cells_of_heap hg8).1 4; have y5 : w6.cell? ⟨wr.heap.size, 5, none⟩ = some (.int .i64 un) := (cells_of_heap hg8).1 5; have y7 : w6.cell? ⟨wr.heap.size, 7, none⟩ = some (.int .i64 st) := (cells_of_heap hg8).1 7; have HO6 := Lib.hid ho6; have HB6 := Lib.hid (HB7.out.grown hg6 HB7.out.size (fun j hj => (HGn.out hj).1)); clear ho6 hg6 hn6 hg8)
                | go_in)
              go_roundw
              case rel => exact ⟨k + 1, A', c', by omega, rfl, by rw [U1.out]; go_num, by rw [U2.out], by go_num, Lib.hid (by rw [HFk.out]; exact HO6.out), HB6⟩
              case measure => simp [intOf]; omega
            · have U1 : Hid (cnt (goS now) (l.take (k + 1)) = m1) := Lib.hid (HTg.out false (by simp [*]))
              have U2 : Hid (cnt (lateS now) (l.take (k + 1)) = m2) := Lib.hid (HTl.out false (by simp [*]))
              clear HTg HTl
              go_wp2_with (first
                | (refine wpList_load_mid rfl 41 (.tmp 23) rfl b (o + k * 10) rfl [.string ⟨job.toArray⟩, .int .i64 occ, .int .i64 host, .int .i64 ver, .int .i64 at_, .int .i64 un, .int .i64 wv, .int .i64 st, .int .i64 out, .int .i64 rs] _ HR.out Try.underlying41 rfl szSt ?_)
                | (refine wpList_store_new rfl 41 (.tmp 9) (.tmp 24) rfl wr.heap.size #[.string ⟨job.toArray⟩, .int .i64 occ, .int .i64 host, .int .i64 ver, .int .i64 at_, .int .i64 un, .int .i64 wv, .int .i64 st, .int .i64 out, .int .i64 rs] rfl rfl 41 zSt (heap_new wr _) szSt rfl rfl ?_; intro w5 hs5 hb5 hg5 ho5; have HB5 := Lib.hid (hb5 wr.heap.size wr (below_alloc wr _) (Nat.le_refl _)); have HG5 := Lib.hid hg5; have u6 : w5.cell? ⟨wr.heap.size, 6, none⟩ = some (.int .i64 wv) := (cells_of_heap hg5).1 6; have v6 := (cells_of_heap hg5).2 6; have z5 : wr.heap.size < w5.heap.size := (by rw [hs5]; simp); have hsw := seven_world z5 HB5.out hg5 (C7 := #[.string ⟨job.toArray⟩, .int .i64 occ, .int .i64 host, .int .i64 ver, .int .i64 at_, .int .i64 un, .int .i64 7, .int .i64 st, .int .i64 out, .int .i64 rs]) rfl HO.out HB.out; have HG7 := Lib.hid hsw.1; have HO7 := Lib.hid hsw.2.1; have HB7 := Lib.hid hsw.2.2.1; have HN7 := Lib.hid hsw.2.2.2.1; have HH7 := Lib.hid hsw.2.2.2.2; clear hsw; clear hs5 hb5 hg5 ho5)
                | (refine wpList_load_row rfl 41 (.tmp 9) rfl wr.heap.size rfl 41 #[.string ⟨job.toArray⟩, .int .i64 occ, .int .i64 host, .int .i64 ver, .int .i64 at_, .int .i64 un, .int .i64 7, .int .i64 st, .int .i64 out, .int .i64 rs] (0, 0) _ HH7.out Try.underlying41 rfl szSt ?_)
                | (at_builtin; refine wpList_append_k _ rfl (.tmp 27) (.tmp 29) 28 rfl 41 is _ 10 88 Try.underlying28 hi hi0 hi1 hi2 rfl (by decide) w.heap.size _ k xs rfl (HO7.out) (some ⟨w5.heap.size, 0, none⟩) 1 1 [.string ⟨job.toArray⟩, .int .i64 occ, .int .i64 host, .int .i64 ver, .int .i64 at_, .int .i64 un, .int .i64 7, .int .i64 st, .int .i64 out, .int .i64 rs] rfl rfl (fun _ => HN7.out) (by intro u hu; simp at hu; rcases hu with rfl | rfl | rfl | rfl | rfl | rfl | rfl | rfl | rfl | rfl <;> rfl) (by unfold maxLen; omega) (by omega) (HB7.out.size) ?_; intro A' c' w6 ho6 hg6 hn6; have hg8 := (hg6.block wr.heap.size (heap_lt HG7.out) (fun e => by have := (HGn.out e.symm).2; omega)).trans HG7.out; have y4 : w6.cell? ⟨wr.heap.size, 4, none⟩ = some (.int .i64 at_) := (cells_of_heap hg8).1 4; have y5 : w6.cell? ⟨wr.heap.size, 5, none⟩ = some (.int .i64 un) := (cells_of_heap hg8).1 5; have y7 : w6.cell? ⟨wr.heap.size, 7, none⟩ = some (.int .i64 st) := (cells_of_heap hg8).1 7; have HO6 := Lib.hid ho6; have HB6 := Lib.hid (HB7.out.grown hg6 HB7.out.size (fun j hj => (HGn.out hj).1)); clear ho6 hg6 hn6 hg8)
                | go_in)
              go_roundw
              case rel => exact ⟨k + 1, A', c', by omega, rfl, by rw [U1.out], by rw [U2.out], by go_num, Lib.hid (by rw [HFk.out]; exact HO6.out), HB6⟩
              case measure => simp [intOf]; omega
      · obtain rfl : k = l.length := by omega
        clear hlt
        have hst := HSt.out HO.out
        generalize cnt (goS now) (l.take l.length) = m1 at *
        generalize cnt (lateS now) (l.take l.length) = m2 at *
        go_wp2_with (first
          | (go_at_call 10; refine (HAd.out _ _ _ hst).mono ?_; rintro e w1 ⟨As, cs, Ak, ck, rfl, hb⟩; have HB1 := Lib.hid (HB.out.trans (hb.mono HB.out.size)); have HG1 := Lib.hid hb; have z1 := HB1.out.size; clear hb)
          | (go_at_call 8; refine (lives_any _).mono ?_; rintro e w2 ⟨rfl, hb⟩; have HB2 : Hid (Below w.heap.size w w2) := Lib.hid ((HB1.out.alloc z1 _).trans (hb.mono (by simp; omega))); have hst2 := hst.later (HG1.out.trans ((below_alloc w1 _).trans (hb.mono (by simp)) |>.mono HG1.out.size)); have q0 : w2.cell? ⟨w1.heap.size, 0, none⟩ = some (.slice As m1 cs) := (cells_of_heap ((hb.block _ (by simp)).trans (heap_new w1 (.cells #[.slice As m1 cs, .slice Ak m2 ck] 34)))).1 0; have q1 : w2.cell? ⟨w1.heap.size, 1, none⟩ = some (.slice Ak m2 ck) := (cells_of_heap ((hb.block _ (by simp)).trans (heap_new w1 (.cells #[.slice As m1 cs, .slice Ak m2 ck] 34)))).1 1; clear hb)
          | (go_at_call 17; refine (HOp.out _ _ _ hst2).mono ?_; rintro e w3 ⟨rfl, hb⟩; have HB3 := Lib.hid (HB2.out.trans (hb.mono HB2.out.size)); clear hb)
          | go_in)
        go_ret
        exact ⟨rfl, HB3.out⟩
end Go.Proofs.Ytcbnankocjlobaa
