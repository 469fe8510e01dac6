/- The laws of layer 17: WavePlays. -/
import Derived.Test.YtcbnankocjlobaaWavV
set_option linter.unusedSimpArgs false
set_option linter.unusedVariables false
namespace Go.Proofs.Ytcbnankocjlobaa
open Go.ChangeShapes Go.WideShapes Go.ChangeAt Go.RowKit Go.Base Go.Maps

abbrev Rns (w : World) (A : Option Addr) (l : List Rn) : Prop := Elts 7 rnC w A l
theorem Rns.later {w w' : World} {A : Option Addr} {l : List Rn} (h : Rns w A l) (hb : Below w.heap.size w w') : Rns w' A l := fun i hi => by
  obtain ⟨b, o, e, hr⟩ := h i hi
  exact ⟨b, o, e, fun j v hv => cell_later hb (hr j v hv)⟩
theorem rn_cells {w : World} {b o : Nat} {r : Rn} (h : w.rangeAt b o (rnC r)) : w.cell? ⟨b, o, none⟩ = some (.string ⟨r.job.toArray⟩) ∧ w.cell? ⟨b, o + 1, none⟩ = some (.int .i64 r.occ) ∧ w.cell? ⟨b, o + 2, none⟩ = some (.int .i64 r.host) ∧ w.cell? ⟨b, o + 3, none⟩ = some (.int .i64 r.ver) ∧ w.cell? ⟨b, o + 4, none⟩ = some (.int .i64 r.at_) ∧ w.cell? ⟨b, o + 5, none⟩ = some (.int .i64 r.un) ∧ w.cell? ⟨b, o + 6, none⟩ = some (.int .i64 r.wv) :=
  ⟨h 0 _ rfl, h 1 _ rfl, h 2 _ rfl, h 3 _ rfl, h 4 _ rfl, h 5 _ rfl, h 6 _ rfl⟩
theorem szRn : (Try.prog.info? 39).map (·.size) = some 7 := by kernel_rfl
set_option maxHeartbeats 40000000 in
set_option maxRecDepth 20000 in
theorem law_plays (C : Array Value) (fai par : Int) (hJ : JA C fai par) (A : Option Addr) (l : List Rn) (c : Nat) (A2 : Option Addr) (ou : List Int) (c2 : Nat) (w : World) (hR : Rns w A l) (hok : ∀ r ∈ l, r.Ok) (hN : Nums w A2 ou) (hm2 : ou.length ≤ maxLen) :
    Calls Try.prog 5 #[.agg C, .slice A l.length c, .slice A2 ou.length c2] w fun e w' => e = .returned (.bool true) ∧ Below w.heap.size w w' := by
  by_cases h60 : (60 : Int) < (l.length : Int)
  · clear hR hok hN hJ
    go_enter Try.func5, Try.ntmps5
    go_wp2_with (first | (go_at_call 8; refine (lives_any _).mono ?_; rintro e w1 ⟨rfl, hb⟩; have HB1 : Hid (Below w.heap.size w w1) := Lib.hid ((below_alloc w _).trans (hb.mono (by simp)))) | go_in)
    go_ret
    exact ⟨rfl, HB1.out⟩
  have hm : l.length ≤ 60 := by omega
  have hm' : (l.length : Int) ≤ 60 := by omega
  have hmo : (ou.length : Int) ≤ 9223372036854775807 := by unfold maxLen at hm2; omega
  obtain ⟨is, hi, hi0, hi1, hi2⟩ := infoS
  have HR := Lib.hid hR
  have HN := Lib.hid hN
  have HJ := Lib.hid hJ
  have HOk := Lib.hid hok
  have hszJ : (Try.prog.info? 27).map (·.size) = some C.size := by rw [hJ.size]; exact szJb
  have HF : Hid (∀ k (hk : k < l.length), flatS ((l.take (k + 1)).map mkS) = flatS ((l.take k).map mkS) ++ stC (mkS l[k])) := Lib.hid (fun k hk => by rw [List.take_succ_eq_append_getElem hk, List.map_append, List.map_cons, List.map_nil, flatS_snoc])
  have HE : Hid (l.take l.length = l) := Lib.hid (by rw [List.take_length])
  have hj0 := heap_new w (.cells C 27)
  have HJ0 := Lib.hid hj0
  clear hR hok hN hJ hm2 hj0
  go_enter Try.func5, Try.ntmps5
  go_wp2
  go_loopw [7, 8] (fun ov iv wr => ∃ (k : Nat) (Ao : Option Addr) (co : Nat), k ≤ l.length ∧ ov = .slice Ao k co ∧ iv = .int .i64 (k : Int) ∧ Hid (wr.ownsRow w.heap.size 41 10 (.slice Ao k co) k (flatS ((l.take k).map mkS))) ∧ Hid (wr.heap[w.heap.size]? = some (.cells C 27 (0, 0))) ∧ Hid (Below w.heap.size w wr) ∧ Hid (∀ j (hj : j < l.length), j < k → RnIn l[j])) (fun _ iv _ => l.length - (intOf iv).toNat)
  case atStart => exact ⟨0, none, 0, Nat.zero_le _, rfl, rfl, Lib.hid (World.ownsRow_nil _ _ _ _), HJ0, Lib.hid (below_alloc _ _), Lib.hid (fun j hj h => by omega)⟩
  case round =>
    obtain ⟨k, Ao, co, hk, rfl, rfl, HO, HJr, HB, HIn⟩ := hrel
    by_cases hlt : k < l.length
    · have hlt' : (k : Int) < (l.length : Int) := by omega
      have hk0 : (0 : Int) ≤ (k : Int) := by omega
      obtain ⟨b, o, rfl, hr⟩ := (HR.out.later HB.out) k hlt
      obtain ⟨c0, c1, c2, c3, c4, c5, c6⟩ := rn_cells hr
      have HRr := Lib.hid hr
      have HFk := Lib.hid (HF.out k hlt)
      have HI1 : Hid (RnIn l[k] → ∀ j (hj : j < l.length), j < k + 1 → RnIn l[j]) := Lib.hid (fun hh j hj hjk => by
        by_cases e : j = k
        · subst e; exact hh
        · exact HIn.out j hj (by omega))
      have HBe := HB.out.size
      clear hr
      generalize flatS ((l.take k).map mkS) = xs at *
      generalize l[k] = r at *
      obtain ⟨job, occ, host, ver, at_, un, wv⟩ := r
      simp only [rnC, mkS, stC] at c0 c1 c2 c3 c4 c5 c6 HRr HFk
      have HGn : Hid (∀ {j}, (Value.slice Ao k co).ownBlock = some j → w.heap.size ≤ j ∧ j < wr.heap.size) := Lib.hid (fun h => HO.out.lt _ h)
      by_cases h1 : at_ < 0
      · have g1 : decide (at_ < 0) = true := decide_eq_true h1
        clear HRr HFk HI1 HGn
        go_wp2_with fail
        go_quiet (fail)
        go_wp2_with (first | (go_at_call 8; refine (lives_any _).mono ?_; rintro e w1 ⟨rfl, hb⟩; have HB1 := Lib.hid (HB.out.trans ((below_drewN (Below.refl _ _) _).trans (hb.mono (Nat.le_refl _)) |>.mono HB.out.size)); clear hb) | go_in)
        go_ret
        exact ⟨rfl, HB1.out⟩
      · have g1 : decide (at_ < 0) = false := decide_eq_false h1
        by_cases h2 : (1000 : Int) < at_
        · have g2 : decide ((1000 : Int) < at_) = true := decide_eq_true h2
          clear HRr HFk HI1 HGn
          go_wp2_with fail
          go_quiet (fail)
          go_wp2_with (first | (go_at_call 8; refine (lives_any _).mono ?_; rintro e w1 ⟨rfl, hb⟩; have HB1 := Lib.hid (HB.out.trans ((below_drewN (Below.refl _ _) _).trans (hb.mono (Nat.le_refl _)) |>.mono HB.out.size)); clear hb) | go_in)
          go_ret
          exact ⟨rfl, HB1.out⟩
        · have g2 : decide ((1000 : Int) < at_) = false := decide_eq_false h2
          by_cases h3 : un ≤ at_
          · have g3 : decide (un ≤ at_) = true := decide_eq_true h3
            clear HRr HFk HI1 HGn
            go_wp2_with fail
            go_quiet (fail)
            go_wp2_with (first | (go_at_call 8; refine (lives_any _).mono ?_; rintro e w1 ⟨rfl, hb⟩; have HB1 := Lib.hid (HB.out.trans ((below_drewN (Below.refl _ _) _).trans (hb.mono (Nat.le_refl _)) |>.mono HB.out.size)); clear hb) | go_in)
            go_ret
            exact ⟨rfl, HB1.out⟩
          · have g3 : decide (un ≤ at_) = false := decide_eq_false h3
            by_cases h4 : (2000 : Int) < un
            · have g4 : decide ((2000 : Int) < un) = true := decide_eq_true h4
              clear HRr HFk HI1 HGn
              go_wp2_with fail
              go_quiet (fail)
              go_wp2_with (first | (go_at_call 8; refine (lives_any _).mono ?_; rintro e w1 ⟨rfl, hb⟩; have HB1 := Lib.hid (HB.out.trans ((below_drewN (Below.refl _ _) _).trans (hb.mono (Nat.le_refl _)) |>.mono HB.out.size)); clear hb) | go_in)
              go_ret
              exact ⟨rfl, HB1.out⟩
            · have g4 : decide ((2000 : Int) < un) = false := decide_eq_false h4
              have HI2 := Lib.hid (HI1.out ⟨(by show 0 ≤ at_; omega), (by show at_ ≤ 1000; omega), (by show at_ < un; omega), (by show un ≤ 2000; omega)⟩)
              clear HI1
              go_wp2_with fail
              go_quiet (fail)
              obtain ⟨V, hV⟩ : ∃ V, V = wr.drewN nq := ⟨_, rfl⟩
              have HVb : Hid (Below wr.heap.size wr V) := Lib.hid (by rw [hV]; exact below_drewN (Below.refl _ _) _)
              have HRv : Hid (V.rangeAt b (o + k * 7) [.string ⟨job.toArray⟩, .int .i64 occ, .int .i64 host, .int .i64 ver, .int .i64 at_, .int .i64 un, .int .i64 wv]) := Lib.hid (fun j v hv => cell_later HVb.out (HRr.out j v hv))
              have HOv : Hid (V.ownsRow w.heap.size 41 10 (.slice Ao k co) k xs) := Lib.hid (own_moved (p := fun _ => False) HO.out (Below.movedNew HVb.out) (fun _ _ h => h))
              have HBv : Hid (Below w.heap.size w V) := Lib.hid (HB.out.trans (HVb.out.mono HB.out.size))
              have HJv : Hid (V.heap[w.heap.size]? = some (.cells C 27 (0, 0))) := Lib.hid ((HVb.out.block _ (heap_lt HJr.out)).trans HJr.out)
              have HO5 : Hid ((V.alloc (.cells #[.string ⟨job.toArray⟩, .int .i64 occ, .int .i64 host, .int .i64 ver, .int .i64 at_, .int .i64 un, .int .i64 wv, .int .i64 1, .int .i64 0, .int .i64 0] 41)).ownsRow w.heap.size 41 10 (.slice Ao k co) k xs) := Lib.hid (own_moved (p := fun _ => False) HOv.out (Below.movedNew (below_alloc V _)) (fun _ _ h => h))
              have HB5 : Hid (Below w.heap.size w (V.alloc (.cells #[.string ⟨job.toArray⟩, .int .i64 occ, .int .i64 host, .int .i64 ver, .int .i64 at_, .int .i64 un, .int .i64 wv, .int .i64 1, .int .i64 0, .int .i64 0] 41))) := Lib.hid (HBv.out.alloc HBv.out.size _)
              have HJ5 : Hid ((V.alloc (.cells #[.string ⟨job.toArray⟩, .int .i64 occ, .int .i64 host, .int .i64 ver, .int .i64 at_, .int .i64 un, .int .i64 wv, .int .i64 1, .int .i64 0, .int .i64 0] 41)).heap[w.heap.size]? = some (.cells C 27 (0, 0))) := Lib.hid (heap_old _ (heap_lt HJv.out) HJv.out)
              have HN5 := Lib.hid (news_new V [.string ⟨job.toArray⟩, .int .i64 occ, .int .i64 host, .int .i64 ver, .int .i64 at_, .int .i64 un, .int .i64 wv, .int .i64 1, .int .i64 0, .int .i64 0] 41)
              rw [← hV]
              clear hV HRr HO c0 c1 c2 c3 c4 c5 c6 g1 g2 g3 g4
              go_wp2_with (first
              | (refine wpList_load_mid rfl 39 (.tmp 75) rfl b (o + k * 7) rfl [.string ⟨job.toArray⟩, .int .i64 occ, .int .i64 host, .int .i64 ver, .int .i64 at_, .int .i64 un, .int .i64 wv] _ HRv.out Try.underlying39 rfl szRn ?_)
              | (at_builtin; refine wpList_append_k _ rfl (.tmp 72) (.tmp 78) 28 rfl 41 is _ 10 88 Try.underlying28 hi hi0 hi1 hi2 rfl (by decide) w.heap.size _ k xs rfl HO5.out (some ⟨V.heap.size, 0, none⟩) 1 1 [.string ⟨job.toArray⟩, .int .i64 occ, .int .i64 host, .int .i64 ver, .int .i64 at_, .int .i64 un, .int .i64 wv, .int .i64 1, .int .i64 0, .int .i64 0] rfl rfl (fun _ => HN5.out) (by intro u hu; simp at hu; rcases hu with rfl | rfl | rfl | rfl | rfl | rfl | rfl | rfl | rfl | rfl <;> rfl) (by unfold maxLen; omega) (by omega) HB5.out.size ?_; intro A' c' w6 ho6 hg6 hn6; have HO6 := Lib.hid ho6; have HB6 := Lib.hid (HB5.out.grown hg6 HB5.out.size (fun j hj => (HGn.out hj).1)); have HJ6 := Lib.hid ((hg6.block _ (heap_lt HJ5.out) (fun e => own_ne HO5.out HJ5.out (by decide) e.symm)).trans HJ5.out); clear ho6 hg6 hn6)
              | go_in)
              go_roundw
              case rel => exact ⟨k + 1, A', c', by omega, rfl, by go_num, Lib.hid (by rw [HFk.out]; exact HO6.out), HJ6, HB6, HI2⟩
              case measure => simp [intOf]; omega
    · obtain rfl : k = l.length := by omega
      clear hlt
      rw [HE.out] at HO
      have HP0 : Hid (PlW w wr C Ao co (l.map mkS)) := Lib.hid ⟨by rw [List.length_map]; exact HO.out, HJr.out, HB.out⟩
      have HA0 := Lib.hid (along_start par l (fun j hj => HIn.out j hj hj) HOk.out)
      clear HO HJr HB HIn HF HE HR HOk
      go_wp2
      go_loopw [9, 10] (fun av nv wr => ∃ (t m : Nat) (L : List Stp), t ≤ 41 ∧ m ≤ t * 60 ∧ av = .int .i64 (m : Int) ∧ nv = .int .i64 (50 * (t : Int)) ∧ Hid (PlW w wr C Ao co L) ∧ Hid (Along par L l.length) ∧ Hid (t = 41 → cnt (isS 1) L = 0)) (fun _ nv _ => (2100 - intOf nv).toNat)
      case atStart => exact ⟨0, 0, l.map mkS, by omega, by omega, rfl, rfl, HP0, HA0, Lib.hid (fun h => by omega)⟩
      case round =>
        as_aux_lemma =>
        obtain ⟨t, m, L, ht, hmt, rfl, rfl, HP, HAl, HZ⟩ := hrel
        have hLl := HAl.out.len
        by_cases ht2 : t < 41
        · have ht3 : 50 * (t : Int) ≤ 2000 := by omega
          obtain ⟨now, hnow⟩ : ∃ now, now = 50 * (t : Int) := ⟨_, rfl⟩
          rw [← hnow] at ht3 ⊢
          have HNow := Lib.hid hnow
          have hn0 : 0 ≤ now := by omega
          have HAd : Hid (Calls Try.prog 10 #[.agg C, .slice Ao l.length co, .int .i64 now] wr fun e w1 => ∃ As cs Ak ck, e = .returned (.agg #[.slice As (advR fai par L now).start.length cs, .slice Ak (advR fai par L now).skip.length ck]) ∧ Pl2 w (w1.alloc (.cells #[.slice As (advR fai par L now).start.length cs, .slice Ak (advR fai par L now).skip.length ck] 34)) C Ao co L w1.heap.size As cs Ak ck (advR fai par L now)) := Lib.hid (by
            have h := advise_any C fai par HJ.out Ao L co now wr HP.out.stps (by rw [hLl]; omega) HAl.out.wvOk
            rw [hLl] at h
            refine h.mono fun e w1 ⟨As, cs, Ak, ck, he, ha, hb⟩ => ⟨As, cs, Ak, ck, he, ?_⟩
            have hpl := HP.out.later hb
            exact ⟨hpl.later (below_alloc _ _), heap_new _ _, AdvW.later ⟨own_weak ha.s HP.out.below.size, own_weak ha.k HP.out.below.size⟩ (below_alloc _ _)⟩)
          have HAF : Hid (AF fai par L now (cnt (isS 2) L : Nat) (advR fai par L now) l.length) := Lib.hid (by have := af_adv fai par L now (cnt (isS 2) L : Nat) L.length; rw [← hLl]; exact this)
          have HLn : Hid ((advR fai par L now).start.length ≤ 60 ∧ (advR fai par L now).skip.length ≤ 60) := Lib.hid (by have := adv_len fai par L now (cnt (isS 2) L : Nat) L.length; unfold advR; omega)
          have HRw := Lib.hid HP.out.job
          generalize advR fai par L now = a at *
          clear hnow
          go_wp2_with (first
            | (refine wpList_load_row rfl 27 (.tmp 3) rfl w.heap.size rfl 27 C (0, 0) _ HRw.out Try.underlying27 rfl hszJ ?_)
            | (go_at_call 10; refine HAd.out.mono ?_; rintro e w1 ⟨As, cs, Ak, ck, rfl, hp2⟩; have HP2 := Lib.hid hp2; clear hp2)
            | go_in)
          obtain ⟨hls, hlk⟩ := HLn.out
          have hls' : (a.start.length : Int) ≤ 60 := by omega
          have hlk' : (a.skip.length : Int) ≤ 60 := by omega
          generalize w1.heap.size = ga at *
          go_loopw [12] (fun iv wr => ∃ (i : Nat) (M : List Stp), i ≤ a.skip.length ∧ iv = .int .i64 (i : Int) ∧ Hid (Pl2 w wr C Ao co M ga As cs Ak ck a) ∧ Hid (Became L M (a.skip.take i) []) ∧ Hid (cnt (isS 2) M = cnt (isS 2) L)) (fun iv _ => a.skip.length - (intOf iv).toNat)
          case atStart => exact ⟨0, L, Nat.zero_le _, rfl, HP2, Lib.hid (Became.refl L), Lib.hid rfl⟩
          case round =>
            as_aux_lemma =>
            obtain ⟨i, M, hi9, rfl, HQ, HBc, HC2⟩ := hrel
            have d0 : wr.cell? ⟨ga, 0, none⟩ = some (.slice As a.start.length cs) := (cells_of_heap HQ.out.cell).1 0
            have d1 : wr.cell? ⟨ga, 1, none⟩ = some (.slice Ak a.skip.length ck) := (cells_of_heap HQ.out.cell).1 1
            have hMl : M.length = l.length := by rw [HBc.out.len, hLl]
            by_cases hlt : i < a.skip.length
            · have hlt' : (i : Int) < (a.skip.length : Int) := by omega
              have hi0' : (0 : Int) ≤ (i : Int) := by omega
              obtain ⟨gk, rfl, s1, s2⟩ := HQ.out.adv.skip_at hlt
              obtain ⟨he1, he2⟩ := HAF.out.skip a.skip[i] (List.getElem_mem hlt)
              have HTk : Hid (a.skip.take (i + 1) = a.skip.take i ++ [a.skip[i]]) := Lib.hid (List.take_succ_eq_append_getElem hlt)
              have HDi : Hid (∀ x ∈ a.skip.take i, x.1 < a.skip[i].1) := Lib.hid (fun x hx => by
                obtain ⟨q, hq, rfl⟩ := List.mem_iff_getElem.1 hx
                rw [List.getElem_take]
                rw [List.length_take] at hq
                exact List.pairwise_iff_getElem.1 HAF.out.rsk q i (by omega) hlt (by omega))
              have hst1 : (M.getD a.skip[i].1 default).st = 1 := by
                rw [HBc.out.other _ (by rw [hLl]; exact he1) (fun x hx => by have := HDi.out x hx; omega) (fun x hx => by cases hx)]; exact he2
              generalize a.skip[i] = e at *
              obtain ⟨ek, er⟩ := e
              simp only at he1 he2 s1 s2 HDi hst1
              obtain ⟨g, rfl, hr, hfz⟩ := HQ.out.pl.at_ (k := ek) (by rw [hMl]; exact he1)
              have u7 := hr 7 _ rfl
              have u9 := hr 9 _ rfl
              rw [hst1] at u7
              have f7 := hfz (ek * 10 + 7)
              have f9 := hfz (ek * 10 + 9)
              have hek : (ek : Int) < (l.length : Int) := by omega
              have hek0 : (0 : Int) ≤ (ek : Int) := by omega
              have HSt : Hid (∃ s, s.st = 4 ∧ s.at_ = (M.getD ek default).at_ ∧ s.un = (M.getD ek default).un ∧ s.wv = (M.getD ek default).wv ∧ Pl2 w ((wr.setCell ⟨g, ek * 10 + 7, none⟩ (.int .i64 4)).setCell ⟨g, ek * 10 + 9, none⟩ (.int .i64 er)) C (some ⟨g, 0, none⟩) co (M.set ek s) ga As cs (some ⟨gk, 0, none⟩) ck a) := Lib.hid (by
                have hl : ek < M.length := by rw [hMl]; exact he1
                have h1 := HQ.out.set (k := ek) hl (j := 7) (v := .int .i64 4) (s := { M.getD ek default with st := 4 }) (by omega) rfl
                have h2 := h1.set (k := ek) (by rw [List.length_set]; exact hl) (j := 9) (v := .int .i64 er) (s := { M.getD ek default with st := 4, rs := er }) (by omega) (by rw [getD_set_same hl]; rfl)
                rw [List.set_set] at h2
                exact ⟨{ M.getD ek default with st := 4, rs := er }, rfl, rfl, rfl, rfl, h2⟩)
              obtain ⟨s, hs1, hs2, hs3, hs4, hs5⟩ := HSt.out
              have HNew := Lib.hid hs5
              have HBn : Hid (Became L (M.set ek s) (a.skip.take (i + 1)) []) := Lib.hid (by rw [HTk.out]; exact HBc.out.skipOne (e := (ek, er)) (by rw [hLl]; exact he1) HDi.out hs1 hs2 hs3 hs4)
              have HCn : Hid (cnt (isS 2) (M.set ek s) = cnt (isS 2) L) := Lib.hid (by
                have h := cnt_set (isS 2) M ek (by rw [hMl]; exact he1) s
                simp only [isS, hst1, hs1] at h
                simp at h
                rw [← HC2.out]; exact h)
              clear hs1 hs2 hs3 hs4 hs5 HSt hr hfz HTk HDi he2 HAF HAd hst1
              go_wp2
              go_roundw
              case rel => exact ⟨i + 1, M.set ek s, by omega, by go_num, HNew, HBn, HCn⟩
              case measure => simp [intOf]; omega
            · obtain rfl : i = a.skip.length := by omega
              clear hlt
              rw [List.take_length] at HBc
              go_wp2
              go_loopw [14] (fun iv wr => ∃ (i : Nat) (M : List Stp), i ≤ a.start.length ∧ iv = .int .i64 (i : Int) ∧ Hid (Pl2 w wr C Ao co M ga As cs Ak ck a) ∧ Hid (Became L M a.skip (a.start.take i)) ∧ Hid (cnt (isS 2) M = cnt (isS 2) L + i)) (fun iv _ => a.start.length - (intOf iv).toNat)
              case atStart => exact ⟨0, M, Nat.zero_le _, rfl, HQ, HBc, HC2⟩
              case round =>
                as_aux_lemma =>
                obtain ⟨i, M, hi9, rfl, HQ, HBc, HC2⟩ := hrel
                have d0 : wr.cell? ⟨ga, 0, none⟩ = some (.slice As a.start.length cs) := (cells_of_heap HQ.out.cell).1 0
                have d1 : wr.cell? ⟨ga, 1, none⟩ = some (.slice Ak a.skip.length ck) := (cells_of_heap HQ.out.cell).1 1
                have hMl : M.length = l.length := by rw [HBc.out.len, hLl]
                by_cases hlt : i < a.start.length
                · have hlt' : (i : Int) < (a.start.length : Int) := by omega
                  have hi0' : (0 : Int) ≤ (i : Int) := by omega
                  obtain ⟨gs, rfl, s1⟩ := HQ.out.adv.start_at hlt
                  obtain ⟨he1, he2, he3, he4, he5⟩ := HAF.out.start a.start[i] (List.getElem_mem hlt)
                  have hds := HAF.out.dis a.start[i] (List.getElem_mem hlt)
                  have HTk : Hid (a.start.take (i + 1) = a.start.take i ++ [a.start[i]]) := Lib.hid (List.take_succ_eq_append_getElem hlt)
                  have HDi : Hid (∀ x ∈ a.start.take i, x < a.start[i]) := Lib.hid (fun x hx => by
                    obtain ⟨q, hq, rfl⟩ := List.mem_iff_getElem.1 hx
                    rw [List.getElem_take]
                    rw [List.length_take] at hq
                    exact List.pairwise_iff_getElem.1 HAF.out.rst q i (by omega) hlt (by omega))
                  have hst1 : (M.getD a.start[i] default).st = 1 := by
                    rw [HBc.out.other _ (by rw [hLl]; exact he1) (fun x hx => hds x hx) (fun x hx => by have := HDi.out x hx; omega)]; exact he2
                  have hsame := HBc.out.same a.start[i] (by rw [hLl]; exact he1)
                  have HLow : Hid (∀ n, n < l.length → (M.getD n default).wv < (M.getD a.start[i] default).wv → (M.getD n default).st ≠ 1 ∧ (M.getD n default).st ≠ 2) := Lib.hid (fun n hn hw => by
                    have hsn := HBc.out.same n (by rw [hLl]; exact hn)
                    rw [hsn.2.2, hsame.2.2] at hw
                    have ho := open_left he5 (by rw [hLl]; exact hn) hw
                    have hoth := HBc.out.other n (by rw [hLl]; exact hn) (fun e he => fun e2 => by
                      have := (HAF.out.skip e he).2
                      rw [e2] at this
                      exact ho.1 this) (fun x hx => fun e2 => by
                      have := (HAF.out.start x (List.mem_of_mem_take hx)).2.1
                      rw [e2] at this
                      exact ho.1 this)
                    rw [hoth]; exact ho)
                  have hat : (M.getD a.start[i] default).at_ ≤ now := by rw [hsame.1]; exact he3
                  have hun : now < (M.getD a.start[i] default).un := by rw [hsame.2.1]; exact he4
                  generalize a.start[i] = ek at *
                  obtain ⟨g, rfl, hr, hfz⟩ := HQ.out.pl.at_ (k := ek) (by rw [hMl]; exact he1)
                  have u4 := hr 4 _ rfl
                  have u5 := hr 5 _ rfl
                  have u6 := hr 6 _ rfl
                  have u7 := hr 7 _ rfl
                  rw [hst1] at u7
                  have HSt := Lib.hid hst1
                  have f7 := hfz (ek * 10 + 7)
                  have hek : (ek : Int) < (l.length : Int) := by omega
                  have hek0 : (0 : Int) ≤ (ek : Int) := by omega
                  have HMd : Hid (∀ n, n < l.length → wr.cell? ⟨g, n * 10 + 6, none⟩ = some (.int .i64 (M.getD n default).wv) ∧ wr.cell? ⟨g, n * 10 + 7, none⟩ = some (.int .i64 (M.getD n default).st)) := Lib.hid (fun n hn => by
                    obtain ⟨g', e, hr', _⟩ := HQ.out.pl.at_ (k := n) (by rw [hMl]; exact hn)
                    injection e with e
                    injection e with e
                    subst e
                    exact ⟨hr' 6 _ rfl, hr' 7 _ rfl⟩)
                  generalize (M.getD ek default).at_ = vat at *
                  generalize (M.getD ek default).un = vun at *
                  generalize hvw : (M.getD ek default).wv = vwv at *
                  have HVw := Lib.hid hvw
                  have hat' : ¬ now < vat := by omega
                  have hun' : ¬ vun ≤ now := by omega
                  have HDs := Lib.hid hds
                  clear hr hfz hds he2 he3 he4 he5 hst1 hsame hvw
                  go_wp2
                  obtain ⟨W, rfl⟩ : ∃ W, W = wr := ⟨_, rfl⟩
                  go_loopw [16] (fun iv wr => ∃ n q : Nat, n ≤ l.length ∧ iv = .int .i64 (n : Int) ∧ wr = W.drewN q) (fun iv _ => l.length - (intOf iv).toNat)
                  case atStart => exact ⟨0, 0, Nat.zero_le _, rfl, rfl⟩
                  case round =>
                    as_aux_lemma =>
                    obtain ⟨n, q, hn9, rfl, rfl⟩ := hrel
                    by_cases hlt : n < l.length
                    · have hlt' : (n : Int) < (l.length : Int) := by omega
                      have hn0' : (0 : Int) ≤ (n : Int) := by omega
                      obtain ⟨x6, x7⟩ := HMd.out n hlt
                      have hlow := HLow.out n hlt
                      generalize (M.getD n default).wv = nw at *
                      generalize (M.getD n default).st = ns at *
                      by_cases hw : nw < vwv
                      · have hw2 : decide (nw < vwv) = true := decide_eq_true hw
                        obtain ⟨ha, hb⟩ := hlow hw
                        have ha2 : (ns == 1) = false := by simpa using ha
                        have hb2 : (ns == 2) = false := by simpa using hb
                        clear hlow
                        go_wp2_with fail
                        go_quiet (fail)
                        go_wp2
                        go_roundw
                        case rel => exact ⟨n + 1, _, by omega, by go_num, rfl⟩
                        case measure => simp [intOf]; omega
                      · have hw2 : decide (nw < vwv) = false := decide_eq_false hw
                        clear hlow
                        go_wp2_with fail
                        go_quiet (fail)
                        go_wp2
                        go_roundw
                        case rel => exact ⟨n + 1, _, by omega, by go_num, rfl⟩
                        case measure => simp [intOf]; omega
                    · obtain rfl : n = l.length := by omega
                      clear hlt
                      have HNw : Hid (∃ s, s.st = 2 ∧ s.at_ = (M.getD ek default).at_ ∧ s.un = (M.getD ek default).un ∧ s.wv = (M.getD ek default).wv ∧ Pl2 w ((W.drewN q).setCell ⟨g, ek * 10 + 7, none⟩ (.int .i64 2)) C (some ⟨g, 0, none⟩) co (M.set ek s) ga (some ⟨gs, 0, none⟩) cs Ak ck a) := Lib.hid (by
                        have hl : ek < M.length := by rw [hMl]; exact he1
                        have h1 := (HQ.out.later (below_drewN (Below.refl _ _) q)).set (k := ek) hl (j := 7) (v := .int .i64 2) (s := { M.getD ek default with st := 2 }) (by omega) rfl
                        exact ⟨{ M.getD ek default with st := 2 }, rfl, rfl, rfl, rfl, h1⟩)
                      obtain ⟨s, hs1, hs2, hs3, hs4, hs5⟩ := HNw.out
                      have HNew := Lib.hid hs5
                      have HBn : Hid (Became L (M.set ek s) a.skip (a.start.take (i + 1))) := Lib.hid (by rw [HTk.out]; exact HBc.out.startOne (by rw [hLl]; exact he1) HDi.out HDs.out hs1 hs2 hs3 hs4)
                      have HCn : Hid (cnt (isS 2) (M.set ek s) = cnt (isS 2) L + (i + 1)) := Lib.hid (by
                        have h := cnt_set (isS 2) M ek (by rw [hMl]; exact he1) s
                        simp only [isS, HSt.out, hs1] at h
                        simp at h
                        have h2 := HC2.out
                        have h3 : cnt (isS 2) (M.set ek s) = cnt (isS 2) M + 1 := h
                        omega)
                      clear hs1 hs2 hs3 hs4 hs5 HNw HTk HDi HDs HLow HMd HAF HAd
                      go_wp2
                      go_roundw
                      case rel => exact ⟨i + 1, M.set ek s, by omega, by go_num, HNew, HBn, HCn⟩
                      case measure => simp [intOf]; omega
                · obtain rfl : i = a.start.length := by omega
                  clear hlt
                  rw [List.take_length] at HBc
                  have HAM : Hid (Along par M l.length) := Lib.hid ⟨hMl, fun j hj => by rw [(HBc.out.same j (by rw [hLl]; exact hj)).2.1]; exact HAl.out.un j hj, fun j hj => by rw [(HBc.out.same j (by rw [hLl]; exact hj)).2.2]; exact HAl.out.wv j hj, fun hp => by
                    have h1 := HC2.out
                    have h2 := HAl.out.few hp
                    rcases HAF.out.room with h | h | h
                    · rw [h] at h1; simp at h1; omega
                    · omega
                    · omega⟩
                  have HNo : Hid (t = 40 → cnt (isS 1) M = 0) := Lib.hid (fun h40 => cnt_isS_zero (fun j hj e1 => by
                    have hj' : j < l.length := by rw [← hMl]; exact hj
                    by_cases hsk : ∃ e ∈ a.skip, e.1 = j
                    · obtain ⟨e, he, rfl⟩ := hsk
                      have := HBc.out.skip e he
                      omega
                    · by_cases hst : ∃ x ∈ a.start, x = j
                      · obtain ⟨x, hx, rfl⟩ := hst
                        have := HBc.out.start x hx
                        omega
                      · have h1 := HBc.out.other j (by rw [hLl]; exact hj') (fun e he e2 => hsk ⟨e, he, e2⟩) (fun x hx e2 => hst ⟨x, hx, e2⟩)
                        rw [e1] at h1
                        have h2 := HAF.out.late j hj' h1.symm (by have := HAl.out.un j hj'; have := HNow.out; omega)
                        exact hsk h2))
                  have HPM := Lib.hid HQ.out.pl
                  have p12 := (cell_of_row wr w.heap.size 12 _ _ _ HQ.out.pl.job).trans HJ.out.p
                  have HAlM := HAM.out
                  clear HAF HAd HC2 HBc HQ d1 HAlM HAl HP HP2
                  go_wp2
                  obtain ⟨W, rfl⟩ : ∃ W, W = wr := ⟨_, rfl⟩
                  go_loopw [17, 18] (fun cv iv wr => ∃ i : Nat, i ≤ l.length ∧ cv = .int .i64 (cnt (isS 2) (M.take i) : Nat) ∧ iv = .int .i64 (i : Int) ∧ wr = W) (fun _ iv _ => l.length - (intOf iv).toNat)
                  case atStart => exact ⟨0, Nat.zero_le _, rfl, rfl, rfl⟩
                  case round =>
                    as_aux_lemma =>
                    obtain ⟨i, hi9, rfl, rfl, rfl⟩ := hrel
                    by_cases hlt : i < l.length
                    · have hlt' : (i : Int) < (l.length : Int) := by omega
                      have hi0' : (0 : Int) ≤ (i : Int) := by omega
                      have hiM : i < M.length := by rw [hMl]; exact hlt
                      obtain ⟨g, rfl, hr, hfz⟩ := HPM.out.at_ (k := i) hiM
                      have u7 := hr 7 _ rfl
                      have HTk := Lib.hid (fun (b : Bool) (h : isS 2 (M.getD i default) = b) => (by rw [cnt_take (isS 2) M hiM, ← getD_at hiM, h]; cases b <;> rfl : cnt (isS 2) (M.take (i + 1)) = cnt (isS 2) (M.take i) + b.toNat))
                      have HLe : Hid (cnt (isS 2) (M.take (i + 1)) ≤ cnt (isS 2) M) := Lib.hid (by unfold cnt; exact (List.take_sublist _ _).countP_le)
                      have hb1 : cnt (isS 2) (M.take i) ≤ 60 := Nat.le_trans (cnt_le _ _) (by rw [List.length_take]; omega)
                      simp only [isS] at HTk
                      clear hr hfz
                      generalize hcn : cnt (isS 2) (M.take i) = cn at *
                      have hcn' : (cn : Int) ≤ 60 := by omega
                      generalize (M.getD i default).st = ns at *
                      cases hq : (ns == 2)
                      · have hq2 : (ns != 2) = true := by unfold bne; rw [hq]; rfl
                        have U := Lib.hid (HTk.out false hq)
                        clear HTk hcn
                        go_wp2
                        go_roundw
                        case rel => exact ⟨i + 1, by omega, by rw [U.out]; rfl, by go_num, by first | rfl | trivial⟩
                        case measure => simp [intOf]; omega
                      · have hq2 : (ns != 2) = false := by unfold bne; rw [hq]; rfl
                        have U := Lib.hid (HTk.out true hq)
                        have HPp : Hid (0 < par → (cn : Int) + 1 ≤ par) := Lib.hid (fun hp => by have h1 := HAM.out.few hp; have h2 := HLe.out; have h3 := U.out; simp at h3; omega)
                        clear HTk hcn
                        by_cases hp : 0 < par
                        · have hp2 : ¬ par < (cn : Int) + 1 := by have := HPp.out hp; omega
                          clear HPp
                          go_wp2
                          go_roundw
                          case rel => exact ⟨i + 1, by omega, by rw [U.out]; go_num, by go_num, by first | rfl | trivial⟩
                          case measure => simp [intOf]; omega
                        · clear HPp
                          go_wp2
                          go_roundw
                          case rel => exact ⟨i + 1, by omega, by rw [U.out]; go_num, by go_num, by first | rfl | trivial⟩
                          case measure => simp [intOf]; omega
                    · obtain rfl : i = l.length := by omega
                      clear hlt
                      go_wp2
                      go_loopw [9, 19] (fun av iv wr => ∃ (i m2 : Nat) (M2 : List Stp), i ≤ l.length ∧ m2 ≤ m + i ∧ av = .int .i64 (m2 : Int) ∧ iv = .int .i64 (i : Int) ∧ Hid (PlW w wr C Ao co M2) ∧ Hid (Along par M2 l.length) ∧ Hid (cnt (isS 1) M2 = cnt (isS 1) M)) (fun _ iv _ => l.length - (intOf iv).toNat)
                      case atStart => exact ⟨0, m, M, Nat.zero_le _, by omega, rfl, rfl, HPM, HAM, Lib.hid rfl⟩
                      case round =>
                        as_aux_lemma =>
                        obtain ⟨i, m2, M2, hi9, hm29, rfl, rfl, HQ, HAQ, HCQ⟩ := hrel
                        have hM2 := HAQ.out.len
                        by_cases hlt : i < l.length
                        · have hlt' : (i : Int) < (l.length : Int) := by omega
                          have hi0' : (0 : Int) ≤ (i : Int) := by omega
                          by_cases hou : 0 < ou.length
                          · have hou' : (0 : Int) < (ou.length : Int) := by omega
                            obtain ⟨g, rfl, hr, hfz⟩ := HQ.out.at_ (k := i) (by rw [hM2]; exact hlt)
                            have u7 := hr 7 _ rfl
                            have u8 := hr 8 _ rfl
                            have f7 := hfz (i * 10 + 7)
                            have f8 := hfz (i * 10 + 8)
                            have hm2' : (m2 : Int) ≤ 1000000 := by omega
                            have HSt := Lib.hid (rfl : (M2.getD i default).st = (M2.getD i default).st)
                            obtain ⟨ns, hns⟩ : ∃ ns, ns = (M2.getD i default).st := ⟨_, rfl⟩
                            have HNs := Lib.hid hns
                            rw [← hns] at u7
                            generalize (M2.getD i default).out = no at *
                            clear hr hfz HSt hns
                            cases hq : (ns == 2)
                            · go_wp2
                              go_roundw
                              case rel => exact ⟨i + 1, m2, M2, by omega, by omega, rfl, by go_num, HQ, HAQ, HCQ⟩
                              case measure => simp [intOf]; omega
                            · obtain ⟨r, hrr⟩ : ∃ r, r = m2 % ou.length := ⟨_, rfl⟩
                              have hrl : r < ou.length := by rw [hrr]; exact Nat.mod_lt _ hou
                              have hrm : (m2 : Int).tmod (ou.length : Int) = (r : Int) := by rw [hrr, Int.tmod_eq_emod_of_nonneg (by omega)]; first | rfl | exact (Int.natCast_emod _ _).symm
                              have hrl' : (r : Int) < (ou.length : Int) := by omega
                              have hr0' : (0 : Int) ≤ (r : Int) := by omega
                              have hon0 : ((ou.length : Int) == 0) = false := by simpa using (by omega : ¬ ou.length = 0)
                              obtain ⟨b2, o2, rfl, v0, _⟩ := (HN.out.later HQ.out.below) r hrl
                              generalize ou[r] = ov at *
                              have HNw : Hid (∃ s, s.st = 3 ∧ s.at_ = (M2.getD i default).at_ ∧ s.un = (M2.getD i default).un ∧ s.wv = (M2.getD i default).wv ∧ PlW w ((wr.setCell ⟨g, i * 10 + 7, none⟩ (.int .i64 3)).setCell ⟨g, i * 10 + 8, none⟩ (.int .i64 ov)) C (some ⟨g, 0, none⟩) co (M2.set i s)) := Lib.hid (by
                                have hl : i < M2.length := by rw [hM2]; exact hlt
                                have h1 := HQ.out.set (k := i) hl (j := 7) (v := .int .i64 3) (s := { M2.getD i default with st := 3 }) (by omega) rfl
                                have h2 := h1.set (k := i) (by rw [List.length_set]; exact hl) (j := 8) (v := .int .i64 ov) (s := { M2.getD i default with st := 3, out := ov }) (by omega) (by rw [getD_set_same hl]; rfl)
                                rw [List.set_set] at h2
                                exact ⟨{ M2.getD i default with st := 3, out := ov }, rfl, rfl, rfl, rfl, h2⟩)
                              obtain ⟨s, hs1, hs2, hs3, hs4, hs5⟩ := HNw.out
                              have HNew := Lib.hid hs5
                              have hns2 : (M2.getD i default).st = 2 := by have := HNs.out; have h9 : ns = 2 := by simpa using hq
                                                                           omega
                              have HAn : Hid (Along par (M2.set i s) l.length) := Lib.hid (by
                                have hl : i < M2.length := by rw [hM2]; exact hlt
                                have hc := cnt_set (isS 2) M2 i hl s
                                simp only [isS, hns2, hs1] at hc
                                simp at hc
                                refine ⟨by rw [List.length_set]; exact hM2, fun j hj => ?_, fun j hj => ?_, fun hp => ?_⟩
                                · by_cases ej : j = i
                                  · subst ej; rw [getD_set_same hl, hs3]; exact HAQ.out.un j hj
                                  · rw [getD_set_other ej]; exact HAQ.out.un j hj
                                · by_cases ej : j = i
                                  · subst ej; rw [getD_set_same hl, hs4]; exact HAQ.out.wv j hj
                                  · rw [getD_set_other ej]; exact HAQ.out.wv j hj
                                · have h2 := HAQ.out.few hp
                                  have h3 : cnt (isS 2) (M2.set i s) + 1 = cnt (isS 2) M2 := hc
                                  omega)
                              have HCn : Hid (cnt (isS 1) (M2.set i s) = cnt (isS 1) M) := Lib.hid (by
                                have hc := cnt_set (isS 1) M2 i (by rw [hM2]; exact hlt) s
                                simp only [isS, hns2, hs1] at hc
                                simp at hc
                                rw [← HCQ.out]; exact hc)
                              clear hs1 hs2 hs3 hs4 hs5 HNw HNs hrr hns2
                              cases ho0 : (ov != 0)
                              · cases hnn : (now == 2000)
                                · go_wp2
                                  go_roundw
                                  case rel => exact ⟨i + 1, m2 + 1, M2, by omega, by omega, by go_num, by go_num, HQ, HAQ, HCQ⟩
                                  case measure => simp [intOf]; omega
                                · go_wp2
                                  go_roundw
                                  case rel => exact ⟨i + 1, m2 + 1, M2.set i s, by omega, by omega, by go_num, by go_num, HNew, HAn, HCn⟩
                                  case measure => simp [intOf]; omega
                              · go_wp2
                                go_roundw
                                case rel => exact ⟨i + 1, m2 + 1, M2.set i s, by omega, by omega, by go_num, by go_num, HNew, HAn, HCn⟩
                                case measure => simp [intOf]; omega
                          · have hou' : ¬ (0 : Int) < (ou.length : Int) := by omega
                            go_wp2
                            go_roundw
                            case rel => exact ⟨t + 1, m2, M2, by omega, by omega, rfl, by rw [HNow.out]; go_num, HQ, HAQ, Lib.hid (fun h => by rw [HCQ.out]; exact HNo.out (by omega))⟩
                            case measure => have := HNow.out; simp [intOf]; omega
                        · obtain rfl : i = l.length := by omega
                          go_wp2
                          go_roundw
                          case rel => exact ⟨t + 1, m2, M2, by omega, by omega, rfl, by rw [HNow.out]; go_num, HQ, HAQ, Lib.hid (fun h => by rw [HCQ.out]; exact HNo.out (by omega))⟩
                          case measure => have := HNow.out; simp [intOf]; omega
        · obtain rfl : t = 41 := by omega
          have hz := HZ.out rfl
          have HCo : Hid (Calls Try.prog 12 #[.slice Ao l.length co] wr fun e w' => (∃ m2 m3 m4 m5 : Int, e = .returned (.tuple #[.int .i64 0, .int .i64 m2, .int .i64 m3, .int .i64 m4, .int .i64 m5])) ∧ Below wr.heap.size wr w') := Lib.hid (by
            have h := countAll_any Ao L co wr HP.out.stps (by rw [hLl]; omega)
            rw [hLl] at h
            have h' : Calls Try.prog 12 #[.slice Ao l.length co] wr fun e w' => e = .returned (.tuple #[.int .i64 (cnt (isS 1) L : Nat), .int .i64 (cnt (isS 2) L : Nat), .int .i64 (cnt goodB L : Nat), .int .i64 (cnt failB L : Nat), .int .i64 (cnt (isS 4) L : Nat)]) ∧ Below wr.heap.size wr w' := h
            rw [hz] at h'
            exact h'.mono fun e w' ⟨he, hb⟩ => ⟨⟨_, _, _, _, he⟩, hb⟩)
          have HOv : Hid (∀ V, Below wr.heap.size wr V → Calls Try.prog 14 #[.slice Ao l.length co] V fun e w' => e = .returned (.bool (overB L)) ∧ Below V.heap.size V w') := Lib.hid (fun V hV => by
            have h := over_any Ao L co V (HP.out.stps.later hV) (by rw [hLl]; omega)
            rw [hLl] at h
            exact h)
          have HBf := Lib.hid HP.out.below
          generalize overB L = ob at *
          clear ht2 hz HZ HAl HP
          have h41 : ¬ (50 * ((41 : Nat) : Int) ≤ 2000) := by omega
          by_cases hou : ou.length = 0
          · have hou2 : ((ou.length : Int) == 0) = true := by simpa using hou
            go_wp2_with (first | (go_at_call 12; refine HCo.out.mono ?_; rintro e w1 ⟨⟨k2, k3, k4, k5, rfl⟩, hb⟩; have HF1 := Lib.hid (HBf.out.trans (hb.mono HBf.out.size)); have HG1 := Lib.hid hb; clear hb) | (go_at_call 8; refine (lives_any _).mono ?_; rintro e w2 ⟨rfl, hb⟩; have HF2 := Lib.hid (HF1.out.trans (hb.mono HF1.out.size)); have HG2 := Lib.hid (HG1.out.trans (hb.mono HG1.out.size)); clear hb) | (go_at_call 14; refine (HOv.out _ HG2.out).mono ?_; rintro e w3 ⟨rfl, hb⟩; have HF3 := Lib.hid (HF2.out.trans (hb.mono HF2.out.size)); clear hb) | go_in)
            go_ret
            exact ⟨rfl, HF2.out⟩
          · have hou2 : ((ou.length : Int) == 0) = false := by simpa using hou
            cases ob
            · go_wp2_with (first | (go_at_call 12; refine HCo.out.mono ?_; rintro e w1 ⟨⟨k2, k3, k4, k5, rfl⟩, hb⟩; have HF1 := Lib.hid (HBf.out.trans (hb.mono HBf.out.size)); have HG1 := Lib.hid hb; clear hb) | (go_at_call 8; refine (lives_any _).mono ?_; rintro e w2 ⟨rfl, hb⟩; have HF2 := Lib.hid (HF1.out.trans (hb.mono HF1.out.size)); have HG2 := Lib.hid (HG1.out.trans (hb.mono HG1.out.size)); clear hb) | (go_at_call 14; refine (HOv.out _ HG2.out).mono ?_; rintro e w3 ⟨rfl, hb⟩; have HF3 := Lib.hid (HF2.out.trans (hb.mono HF2.out.size)); clear hb) | go_in)
              go_ret
              exact ⟨rfl, HF3.out⟩
            · go_wp2_with (first | (go_at_call 12; refine HCo.out.mono ?_; rintro e w1 ⟨⟨k2, k3, k4, k5, rfl⟩, hb⟩; have HF1 := Lib.hid (HBf.out.trans (hb.mono HBf.out.size)); have HG1 := Lib.hid hb; clear hb) | (go_at_call 8; refine (lives_any _).mono ?_; rintro e w2 ⟨rfl, hb⟩; have HF2 := Lib.hid (HF1.out.trans (hb.mono HF1.out.size)); have HG2 := Lib.hid (HG1.out.trans (hb.mono HG1.out.size)); clear hb) | (go_at_call 14; refine (HOv.out _ HG2.out).mono ?_; rintro e w3 ⟨rfl, hb⟩; have HF3 := Lib.hid (HF2.out.trans (hb.mono HF2.out.size)); clear hb) | go_in)
              go_ret
              exact ⟨rfl, HF3.out⟩
end Go.Proofs.Ytcbnankocjlobaa
