/- The reference of layer 17: Advise. -/
import Derived.Test.YtcbnankocjlobaaWavH
import Derived.Test.YtcbnankocjlobaaWavK
set_option linter.unusedSimpArgs false
set_option linter.unusedVariables false
namespace Go.Proofs.Ytcbnankocjlobaa
open Go.ChangeShapes Go.WideShapes Go.ChangeAt Go.RowKit Go.Base Go.Maps

set_option maxHeartbeats 80000000 in
set_option maxRecDepth 20000 in
theorem refAdvise_any (C : Array Value) (fai par : Int) (hJ : JA C fai par) (A : Option Addr) (l : List Stp) (c : Nat) (now : Int) (w : World) (hS : Stps w A l) (hm : l.length ≤ 1000000) :
    Calls Try.prog 11 #[.agg C, .slice A l.length c, .int .i64 now] w (AdvPost (advR fai par l now) w) := by
  have hm' : (l.length : Int) ≤ 1000000 := by omega
  obtain ⟨ii, hi, hi0, hi1, hi2⟩ := infoI
  obtain ⟨ik, hk, hk0, hk1, hk2⟩ := infoK
  have HHa := Lib.hid (fun v V (hV : Below w.heap.size w V) => refHalted_any C fai par hJ A l c v V (hS.later hV) (by omega))
  have HOp := Lib.hid (fun v V (hV : Below w.heap.size w V) => refOpen_any C fai par hJ A l c v V (hS.later hV) (by omega))
  have hszJ : (Try.prog.info? 27).map (·.size) = some C.size := by rw [hJ.size]; exact szJb
  have HJp := Lib.hid hJ.p
  have HS := Lib.hid hS
  have HSt : Hid (∀ on k (hk : k < l.length), advK fai par l now on (k + 1) = stepAdv fai par l now on (advK fai par l now on k) k l[k]) := Lib.hid (fun on k hk => by
    show stepAdv fai par l now on _ k (l.getD k default) = _
    rw [List.getD_eq_getElem?_getD, List.getElem?_eq_getElem hk]; rfl)
  have HLn := Lib.hid (adv_len fai par l now)
  have HR : Hid (advR fai par l now = advK fai par l now (cnt (isS 2) (l.take l.length) : Nat) l.length) := Lib.hid (by rw [List.take_length]; rfl)
  have HT := Lib.hid (fun k (hk : k < l.length) (b : Bool) (h : isS 2 l[k] = b) => (by rw [cnt_take (isS 2) l hk, h]; cases b <;> rfl : cnt (isS 2) (l.take (k + 1)) = cnt (isS 2) (l.take k) + b.toNat))
  have HL : Hid (∀ k, cnt (isS 2) (l.take k) ≤ k) := Lib.hid (fun k => Nat.le_trans (cnt_le _ _) (by rw [List.length_take]; omega))
  have HM0 : Hid (Mid w (((w.alloc (.cells C 27)).alloc (.cells #[.slice none 0 0, .slice none 0 0] 34)).alloc (.cells #[.slice none 0 0, .slice none 0 0] 34)) C (w.heap.size + 1 + 1) none 0 none 0 ⟨[], []⟩) := Lib.hid (by
    have e1 := heap_new (w.alloc (.cells C 27)) (.cells #[.slice none 0 0, .slice none 0 0] 34)
    have e2 := heap_new ((w.alloc (.cells C 27)).alloc (.cells #[.slice none 0 0, .slice none 0 0] 34)) (.cells #[.slice none 0 0, .slice none 0 0] 34)
    have z1 : (w.alloc (.cells C 27)).heap.size = w.heap.size + 1 := by simp
    have z2 : ((w.alloc (.cells C 27)).alloc (.cells #[.slice none 0 0, .slice none 0 0] 34)).heap.size = w.heap.size + 1 + 1 := by simp
    rw [z1] at e1
    rw [z2] at e2
    refine ⟨⟨World.ownsRow_nil _ _ _ _, World.ownsRow_nil _ _ _ _⟩, e2, ?_, ?_, by omega, ?_⟩
    · exact heap_old _ (by omega) (heap_old _ (by omega) (heap_new w _))
    · exact heap_old _ (by omega) e1
    · exact ((below_alloc w _).alloc (by omega) _).alloc (by omega) _)
  generalize advR fai par l now = R at *
  clear hJ hS
  go_enter Try.func11, Try.ntmps11
  go_wp2
  generalize ((w.alloc (.cells C 27)).alloc (.cells #[.slice none 0 0, .slice none 0 0] 34)).alloc (.cells #[.slice none 0 0, .slice none 0 0] 34) = W0 at *
  generalize w.heap.size + 1 + 1 = g at *
  go_loopw [8, 9] (fun ov iv wr => ∃ k : Nat, k ≤ l.length ∧ ov = .int .i64 (cnt (isS 2) (l.take k) : Nat) ∧ iv = .int .i64 (k : Int) ∧ wr = W0) (fun _ iv _ => l.length - (intOf iv).toNat)
  case atStart => exact ⟨0, Nat.zero_le _, rfl, rfl, rfl⟩
  case round =>
    obtain ⟨k, hko, rfl, rfl, rfl⟩ := hrel
    have hLk := HL.out k
    by_cases hlt : k < l.length
    · have hlt' : (k : Int) < (l.length : Int) := by omega
      have hk0 : (0 : Int) ≤ (k : Int) := by omega
      obtain ⟨b, o, rfl, hr⟩ := (HS.out.later HM0.out.below) k hlt
      have c7 : wr.cell? ⟨b, o + k * 10 + 7, none⟩ = some (.int .i64 l[k].st) := hr 7 _ rfl
      have HTk := Lib.hid (HT.out k hlt)
      clear hr
      generalize cnt (isS 2) (l.take k) = m at *
      have hm2 : (m : Int) ≤ 1000000 := by omega
      generalize l[k] = s at *
      obtain ⟨job, occ, host, ver, at_, un, wv, st, out, rs⟩ := s
      simp only [isS] at c7 HTk
      cases hq : (st == 2)
      · have U := Lib.hid (HTk.out false hq)
        clear HTk
        go_wp2
        go_roundw
        case rel => exact ⟨k + 1, by omega, by rw [U.out]; rfl, by go_num, by first | rfl | trivial⟩
        case measure => simp [intOf]; omega
      · have U := Lib.hid (HTk.out true hq)
        clear HTk
        go_wp2
        go_roundw
        case rel => exact ⟨k + 1, by omega, by rw [U.out]; go_num, by go_num, by first | rfl | trivial⟩
        case measure => simp [intOf]; omega
    · obtain rfl : k = l.length := by omega
      clear hlt
      generalize cnt (isS 2) (l.take l.length) = on at *
      have hon : (on : Int) ≤ 1000000 := by omega
      clear HT HL hLk
      go_wp2
      go_loopw [8, 10] (fun ov iv wr => ∃ (k : Nat) (As : Option Addr) (cs : Nat) (Ak : Option Addr) (ck : Nat), k ≤ l.length ∧ ov = .int .i64 ((on : Int) + ((advK fai par l now on k).start.length : Nat)) ∧ iv = .int .i64 (k : Int) ∧ Hid (Mid w wr C g As cs Ak ck (advK fai par l now on k))) (fun _ iv _ => l.length - (intOf iv).toNat)
      case atStart => exact ⟨0, none, 0, none, 0, Nat.zero_le _, by simp [advK], rfl, HM0⟩
      case round =>
        obtain ⟨k, As, cs, Ak, ck, hkl, rfl, rfl, HM⟩ := hrel
        have hlen := HLn.out on k
        by_cases hlt : k < l.length
        · have hlt' : (k : Int) < (l.length : Int) := by omega
          have hk00 : (0 : Int) ≤ (k : Int) := by omega
          obtain ⟨b, o, rfl, hr⟩ := (HS.out.later HM.out.below) k hlt
          have hO := stC_one l[k]
          have HRr := Lib.hid hr
          have hzC := stC_size l[k]
          have hL : Hid ((stC l[k]).toArray[4]? = some (.int .i64 l[k].at_) ∧ (stC l[k]).toArray[5]? = some (.int .i64 l[k].un) ∧ (stC l[k]).toArray[6]? = some (.int .i64 l[k].wv) ∧ (stC l[k]).toArray[7]? = some (.int .i64 l[k].st)) := Lib.hid ⟨rfl, rfl, rfl, rfl⟩
          have HStk := Lib.hid (HSt.out on k hlt)
          clear hr
          generalize advK fai par l now on k = a at *
          generalize l[k] = s at *
          obtain ⟨L, hLL⟩ : ∃ L, L = stC s := ⟨_, rfl⟩
          rw [← hLL] at hO hzC HRr hL
          have hszC : (Try.prog.info? 41).map (·.size) = some L.length := by rw [hzC]; exact szSt
          have hszA : (Try.prog.info? 41).map (·.size) = some L.toArray.size := by rw [List.size_toArray]; exact hszC
          have hsz1 : zSt.size = L.toArray.size := by rw [List.size_toArray]; exact hzC.symm
          clear hLL
          obtain ⟨job, occ, host, ver, at_, un, wv, st, out, rs⟩ := s
          simp only at HStk hL
          have tA : True := trivial
          have tB : True := trivial
          have tC : True := trivial
          have tD : True := trivial
          have hsl : ((on : Int) + (a.start.length : Int)) ≤ 2000000 := by omega
          cases hst : (st == 1)
          · have HV : Hid (advK fai par l now on (k + 1) = a) := Lib.hid (by rw [HStk.out]; unfold stepAdv; rw [if_pos hst])
            have hst2 : (st != 1) = true := by unfold bne; rw [hst]; rfl
            go_wp2_with (first
              | (clear tA; refine wpList_load_mid rfl 41 (.tmp 35) rfl b (o + k * 10) rfl L _ HRr.out Try.underlying41 rfl hszC ?_)
              | (clear tB; refine wpList_store_new rfl 41 (.tmp 11) (.tmp 36) rfl wr.heap.size L.toArray rfl rfl 41 zSt (heap_new wr _) hszA hsz1 hO ?_; intro w5 hs5 hb5 hg5 ho5; have HM5 := Lib.hid (HM.out.later (hb5 wr.heap.size wr (below_alloc wr _) (Nat.le_refl _))); have e4 := (cell_of_row w5 wr.heap.size 4 _ _ _ hg5).trans hL.out.1; have e5 := (cell_of_row w5 wr.heap.size 5 _ _ _ hg5).trans hL.out.2.1; have e6 := (cell_of_row w5 wr.heap.size 6 _ _ _ hg5).trans hL.out.2.2.1; have e7 := (cell_of_row w5 wr.heap.size 7 _ _ _ hg5).trans hL.out.2.2.2; have d50 := cell_of_row w5 g 0 _ _ _ HM5.out.cell; have d51 := cell_of_row w5 g 1 _ _ _ HM5.out.cell; simp only [List.getElem?_toArray, List.getElem?_cons_zero, List.getElem?_cons_succ] at d50 d51; clear hs5 hb5 ho5 hg5)
              | go_in)
            go_roundw
            case rel => exact ⟨k + 1, As, cs, Ak, ck, by omega, by rw [HV.out], by go_num, Lib.hid (by rw [HV.out]; exact HM5.out)⟩
            case measure => simp [intOf]; omega
          · have hst2 : (st != 1) = false := by unfold bne; rw [hst]; rfl
            have HS1 : Hid (advK fai par l now on (k + 1) = if un ≤ now then ⟨a.start, a.skip ++ [(k, 3)]⟩ else if haltB fai l wv = true then ⟨a.start, a.skip ++ [(k, 5)]⟩ else if (openB fai l wv && decide (at_ ≤ now) && roomB par (on + (a.start.length : Nat))) = true then ⟨a.start ++ [k], a.skip⟩ else a) := Lib.hid (by rw [HStk.out]; unfold stepAdv; rw [if_neg (by simp [hst])])
            clear HStk
            by_cases hun : un ≤ now
            · have HV : Hid (advK fai par l now on (k + 1) = ⟨a.start, a.skip ++ [(k, 3)]⟩) := Lib.hid (by rw [HS1.out, if_pos hun])
              go_wp2_with (first
                | (clear tA; refine wpList_load_mid rfl 41 (.tmp 35) rfl b (o + k * 10) rfl L _ HRr.out Try.underlying41 rfl hszC ?_)
                | (clear tB; refine wpList_store_new rfl 41 (.tmp 11) (.tmp 36) rfl wr.heap.size L.toArray rfl rfl 41 zSt (heap_new wr _) hszA hsz1 hO ?_; intro w5 hs5 hb5 hg5 ho5; have HM5 := Lib.hid (HM.out.later (hb5 wr.heap.size wr (below_alloc wr _) (Nat.le_refl _))); have e4 := (cell_of_row w5 wr.heap.size 4 _ _ _ hg5).trans hL.out.1; have e5 := (cell_of_row w5 wr.heap.size 5 _ _ _ hg5).trans hL.out.2.1; have e6 := (cell_of_row w5 wr.heap.size 6 _ _ _ hg5).trans hL.out.2.2.1; have e7 := (cell_of_row w5 wr.heap.size 7 _ _ _ hg5).trans hL.out.2.2.2; have d50 := cell_of_row w5 g 0 _ _ _ HM5.out.cell; have d51 := cell_of_row w5 g 1 _ _ _ HM5.out.cell; simp only [List.getElem?_toArray, List.getElem?_cons_zero, List.getElem?_cons_succ] at d50 d51; clear hs5 hb5 ho5 hg5)
                | (at_builtin; refine wpList_append_k _ rfl (.tmp 46) (.tmp 49) 32 rfl 48 ik _ 2 16 Try.underlying32 hk hk0 hk1 hk2 rfl (by decide) w.heap.size _ a.skip.length (skV a.skip) rfl (HM5.out.later (below_alloc w5 (.cells #[.int .i64 (k : Int), .int .i64 3] 48))).adv.k (some ⟨w5.heap.size, 0, none⟩) 1 1 [.int .i64 (k : Int), .int .i64 3] rfl rfl (fun _ => news_new w5 _ _) (by intro u hu; simp at hu; rcases hu with rfl | rfl <;> rfl) (by unfold maxLen; omega) (by omega) (HM5.out.later (below_alloc w5 _)).below.size ?_; intro A' c' w8 ho8 hg8 hn8; have h8 := (HM5.out.later (below_alloc w5 (.cells #[.int .i64 (k : Int), .int .i64 3] 48))).cellK hg8; obtain ⟨k8, f8⟩ := cells_of_heap h8; have k81 := k8 1; have f81 := f8 1; clear k8 f8 h8; have HN := Lib.hid ((HM5.out.later (below_alloc w5 (.cells #[.int .i64 (k : Int), .int .i64 3] 48))).skip ho8 hg8 hn8); clear ho8 hg8 hn8)
                | go_in)
              go_roundw
              case rel => exact ⟨k + 1, As, cs, A', c', by omega, by rw [HV.out], by go_num, Lib.hid (by rw [HV.out]; exact HN.out)⟩
              case measure => simp [intOf]; omega
            · have HHk := Lib.hid (HHa.out wv)
              have HOk := Lib.hid (HOp.out wv)
              clear HHa HOp HSt HLn 
              cases hqh : haltB fai l wv
              all_goals rw [hqh] at HHk
              · have HS2 : Hid (advK fai par l now on (k + 1) = if (openB fai l wv && decide (at_ ≤ now) && roomB par (on + (a.start.length : Nat))) = true then ⟨a.start ++ [k], a.skip⟩ else a) := Lib.hid (by rw [HS1.out, if_neg hun, if_neg (by simp [hqh])])
                clear HS1
                have HRo : Hid (roomB par (on + (a.start.length : Nat)) = (decide (par ≤ 0) || decide ((on : Int) + (a.start.length : Nat) < par))) := Lib.hid rfl
                cases hqo : openB fai l wv
                all_goals rw [hqo] at HOk
                · have HV : Hid (advK fai par l now on (k + 1) = a) := Lib.hid (by rw [HS2.out, hqo, if_neg (by simp)])
                  go_wp2_with (first
                    | (clear tA; refine wpList_load_mid rfl 41 (.tmp 35) rfl b (o + k * 10) rfl L _ HRr.out Try.underlying41 rfl hszC ?_)
                    | (clear tB; refine wpList_store_new rfl 41 (.tmp 11) (.tmp 36) rfl wr.heap.size L.toArray rfl rfl 41 zSt (heap_new wr _) hszA hsz1 hO ?_; intro w5 hs5 hb5 hg5 ho5; have HM5 := Lib.hid (HM.out.later (hb5 wr.heap.size wr (below_alloc wr _) (Nat.le_refl _))); have e4 := (cell_of_row w5 wr.heap.size 4 _ _ _ hg5).trans hL.out.1; have e5 := (cell_of_row w5 wr.heap.size 5 _ _ _ hg5).trans hL.out.2.1; have e6 := (cell_of_row w5 wr.heap.size 6 _ _ _ hg5).trans hL.out.2.2.1; have e7 := (cell_of_row w5 wr.heap.size 7 _ _ _ hg5).trans hL.out.2.2.2; have d50 := cell_of_row w5 g 0 _ _ _ HM5.out.cell; have d51 := cell_of_row w5 g 1 _ _ _ HM5.out.cell; simp only [List.getElem?_toArray, List.getElem?_cons_zero, List.getElem?_cons_succ] at d50 d51; clear hs5 hb5 ho5 hg5)
                    | (clear tD; refine wpList_load_row rfl 27 (.tmp 3) rfl w.heap.size rfl 27 C (0, 0) _ HM6.out.job Try.underlying27 rfl hszJ ?_)
                    | (clear tC; refine wpList_load_row rfl 27 (.tmp 3) rfl w.heap.size rfl 27 C (0, 0) _ HM5.out.job Try.underlying27 rfl hszJ ?_)
                    | (go_at_call 23; refine (HHk.out _ HM5.out.below).mono ?_; rintro e w6 ⟨rfl, hb6⟩; have HM6 := Lib.hid (HM5.out.later hb6); have e46 := cell_later hb6 e4; have e66 := cell_later hb6 e6; have d60 := cell_of_row w6 g 0 _ _ _ HM6.out.cell; have d61 := cell_of_row w6 g 1 _ _ _ HM6.out.cell; simp only [List.getElem?_toArray, List.getElem?_cons_zero, List.getElem?_cons_succ] at d60 d61; clear hb6)
                    | (go_at_call 18; refine (HOk.out _ HM6.out.below).mono ?_; rintro e w7 ⟨rfl, hb7⟩; have HM7 := Lib.hid (HM6.out.later hb7); have e47 := cell_later hb7 e46; have d70 := cell_of_row w7 g 0 _ _ _ HM7.out.cell; have d71 := cell_of_row w7 g 1 _ _ _ HM7.out.cell; have p7 := (cell_of_row w7 w.heap.size 12 _ _ _ HM7.out.job).trans HJp.out; simp only [List.getElem?_toArray, List.getElem?_cons_zero, List.getElem?_cons_succ] at d70 d71; clear hb7)
                    | go_in)
                  go_roundw
                  case rel => exact ⟨k + 1, As, cs, Ak, ck, by omega, by rw [HV.out], by go_num, Lib.hid (by rw [HV.out]; exact HM7.out)⟩
                  case measure => simp [intOf]; omega
                · by_cases hat : at_ ≤ now
                  · by_cases hp0 : par ≤ 0
                    · have HV : Hid (advK fai par l now on (k + 1) = ⟨a.start ++ [k], a.skip⟩) := Lib.hid (by rw [HS2.out, hqo, HRo.out, if_pos (by simp [hat, hp0])])
                      go_wp2_with (first
                        | (clear tA; refine wpList_load_mid rfl 41 (.tmp 35) rfl b (o + k * 10) rfl L _ HRr.out Try.underlying41 rfl hszC ?_)
                        | (clear tB; refine wpList_store_new rfl 41 (.tmp 11) (.tmp 36) rfl wr.heap.size L.toArray rfl rfl 41 zSt (heap_new wr _) hszA hsz1 hO ?_; intro w5 hs5 hb5 hg5 ho5; have HM5 := Lib.hid (HM.out.later (hb5 wr.heap.size wr (below_alloc wr _) (Nat.le_refl _))); have e4 := (cell_of_row w5 wr.heap.size 4 _ _ _ hg5).trans hL.out.1; have e5 := (cell_of_row w5 wr.heap.size 5 _ _ _ hg5).trans hL.out.2.1; have e6 := (cell_of_row w5 wr.heap.size 6 _ _ _ hg5).trans hL.out.2.2.1; have e7 := (cell_of_row w5 wr.heap.size 7 _ _ _ hg5).trans hL.out.2.2.2; have d50 := cell_of_row w5 g 0 _ _ _ HM5.out.cell; have d51 := cell_of_row w5 g 1 _ _ _ HM5.out.cell; simp only [List.getElem?_toArray, List.getElem?_cons_zero, List.getElem?_cons_succ] at d50 d51; clear hs5 hb5 ho5 hg5)
                        | (clear tD; refine wpList_load_row rfl 27 (.tmp 3) rfl w.heap.size rfl 27 C (0, 0) _ HM6.out.job Try.underlying27 rfl hszJ ?_)
                        | (clear tC; refine wpList_load_row rfl 27 (.tmp 3) rfl w.heap.size rfl 27 C (0, 0) _ HM5.out.job Try.underlying27 rfl hszJ ?_)
                        | (go_at_call 23; refine (HHk.out _ HM5.out.below).mono ?_; rintro e w6 ⟨rfl, hb6⟩; have HM6 := Lib.hid (HM5.out.later hb6); have e46 := cell_later hb6 e4; have e66 := cell_later hb6 e6; have d60 := cell_of_row w6 g 0 _ _ _ HM6.out.cell; have d61 := cell_of_row w6 g 1 _ _ _ HM6.out.cell; simp only [List.getElem?_toArray, List.getElem?_cons_zero, List.getElem?_cons_succ] at d60 d61; clear hb6)
                        | (go_at_call 18; refine (HOk.out _ HM6.out.below).mono ?_; rintro e w7 ⟨rfl, hb7⟩; have HM7 := Lib.hid (HM6.out.later hb7); have e47 := cell_later hb7 e46; have d70 := cell_of_row w7 g 0 _ _ _ HM7.out.cell; have d71 := cell_of_row w7 g 1 _ _ _ HM7.out.cell; have p7 := (cell_of_row w7 w.heap.size 12 _ _ _ HM7.out.job).trans HJp.out; simp only [List.getElem?_toArray, List.getElem?_cons_zero, List.getElem?_cons_succ] at d70 d71; clear hb7)
                        | (at_builtin; refine wpList_append_k _ rfl (.tmp 90) (.tmp 92) 31 rfl 3 ii _ 1 8 Try.underlying31 hi hi0 hi1 hi2 rfl (by decide) w.heap.size _ a.start.length (stV a.start) rfl (HM7.out.later (below_alloc w7 (.cells #[.int .i64 (k : Int)] 3))).adv.s (some ⟨w7.heap.size, 0, none⟩) 1 1 [.int .i64 (k : Int)] rfl rfl (fun _ => news_new w7 _ _) (by intro u hu; simp at hu; subst hu; rfl) (by unfold maxLen; omega) (by omega) (HM7.out.later (below_alloc w7 _)).below.size ?_; intro A' c' w8 ho8 hg8 hn8; have h8 := (HM7.out.later (below_alloc w7 (.cells #[.int .i64 (k : Int)] 3))).cellS hg8; obtain ⟨k8, f8⟩ := cells_of_heap h8; have k80 := k8 0; have f80 := f8 0; clear k8 f8 h8; have HN := Lib.hid ((HM7.out.later (below_alloc w7 (.cells #[.int .i64 (k : Int)] 3))).start ho8 hg8 hn8); clear ho8 hg8 hn8)
                        | go_in)
                      go_roundw
                      case rel => exact ⟨k + 1, A', c', Ak, ck, by omega, by rw [HV.out]; simp only [List.length_append, List.length_cons, List.length_nil]; go_num, by go_num, Lib.hid (by rw [HV.out]; exact HN.out)⟩
                      case measure => simp [intOf]; omega
                    · by_cases hpo : (on : Int) + (a.start.length : Int) < par
                      · have HV : Hid (advK fai par l now on (k + 1) = ⟨a.start ++ [k], a.skip⟩) := Lib.hid (by rw [HS2.out, hqo, HRo.out, if_pos (by simp [hat, hpo])])
                        go_wp2_with (first
                          | (clear tA; refine wpList_load_mid rfl 41 (.tmp 35) rfl b (o + k * 10) rfl L _ HRr.out Try.underlying41 rfl hszC ?_)
                          | (clear tB; refine wpList_store_new rfl 41 (.tmp 11) (.tmp 36) rfl wr.heap.size L.toArray rfl rfl 41 zSt (heap_new wr _) hszA hsz1 hO ?_; intro w5 hs5 hb5 hg5 ho5; have HM5 := Lib.hid (HM.out.later (hb5 wr.heap.size wr (below_alloc wr _) (Nat.le_refl _))); have e4 := (cell_of_row w5 wr.heap.size 4 _ _ _ hg5).trans hL.out.1; have e5 := (cell_of_row w5 wr.heap.size 5 _ _ _ hg5).trans hL.out.2.1; have e6 := (cell_of_row w5 wr.heap.size 6 _ _ _ hg5).trans hL.out.2.2.1; have e7 := (cell_of_row w5 wr.heap.size 7 _ _ _ hg5).trans hL.out.2.2.2; have d50 := cell_of_row w5 g 0 _ _ _ HM5.out.cell; have d51 := cell_of_row w5 g 1 _ _ _ HM5.out.cell; simp only [List.getElem?_toArray, List.getElem?_cons_zero, List.getElem?_cons_succ] at d50 d51; clear hs5 hb5 ho5 hg5)
                          | (clear tD; refine wpList_load_row rfl 27 (.tmp 3) rfl w.heap.size rfl 27 C (0, 0) _ HM6.out.job Try.underlying27 rfl hszJ ?_)
                          | (clear tC; refine wpList_load_row rfl 27 (.tmp 3) rfl w.heap.size rfl 27 C (0, 0) _ HM5.out.job Try.underlying27 rfl hszJ ?_)
                          | (go_at_call 23; refine (HHk.out _ HM5.out.below).mono ?_; rintro e w6 ⟨rfl, hb6⟩; have HM6 := Lib.hid (HM5.out.later hb6); have e46 := cell_later hb6 e4; have e66 := cell_later hb6 e6; have d60 := cell_of_row w6 g 0 _ _ _ HM6.out.cell; have d61 := cell_of_row w6 g 1 _ _ _ HM6.out.cell; simp only [List.getElem?_toArray, List.getElem?_cons_zero, List.getElem?_cons_succ] at d60 d61; clear hb6)
                          | (go_at_call 18; refine (HOk.out _ HM6.out.below).mono ?_; rintro e w7 ⟨rfl, hb7⟩; have HM7 := Lib.hid (HM6.out.later hb7); have e47 := cell_later hb7 e46; have d70 := cell_of_row w7 g 0 _ _ _ HM7.out.cell; have d71 := cell_of_row w7 g 1 _ _ _ HM7.out.cell; have p7 := (cell_of_row w7 w.heap.size 12 _ _ _ HM7.out.job).trans HJp.out; simp only [List.getElem?_toArray, List.getElem?_cons_zero, List.getElem?_cons_succ] at d70 d71; clear hb7)
                          | (at_builtin; refine wpList_append_k _ rfl (.tmp 90) (.tmp 92) 31 rfl 3 ii _ 1 8 Try.underlying31 hi hi0 hi1 hi2 rfl (by decide) w.heap.size _ a.start.length (stV a.start) rfl (HM7.out.later (below_alloc w7 (.cells #[.int .i64 (k : Int)] 3))).adv.s (some ⟨w7.heap.size, 0, none⟩) 1 1 [.int .i64 (k : Int)] rfl rfl (fun _ => news_new w7 _ _) (by intro u hu; simp at hu; subst hu; rfl) (by unfold maxLen; omega) (by omega) (HM7.out.later (below_alloc w7 _)).below.size ?_; intro A' c' w8 ho8 hg8 hn8; have h8 := (HM7.out.later (below_alloc w7 (.cells #[.int .i64 (k : Int)] 3))).cellS hg8; obtain ⟨k8, f8⟩ := cells_of_heap h8; have k80 := k8 0; have f80 := f8 0; clear k8 f8 h8; have HN := Lib.hid ((HM7.out.later (below_alloc w7 (.cells #[.int .i64 (k : Int)] 3))).start ho8 hg8 hn8); clear ho8 hg8 hn8)
                          | go_in)
                        go_roundw
                        case rel => exact ⟨k + 1, A', c', Ak, ck, by omega, by rw [HV.out]; simp only [List.length_append, List.length_cons, List.length_nil]; go_num, by go_num, Lib.hid (by rw [HV.out]; exact HN.out)⟩
                        case measure => simp [intOf]; omega
                      · have HV : Hid (advK fai par l now on (k + 1) = a) := Lib.hid (by rw [HS2.out, hqo, HRo.out, if_neg (by simp [hat]; omega)])
                        go_wp2_with (first
                          | (clear tA; refine wpList_load_mid rfl 41 (.tmp 35) rfl b (o + k * 10) rfl L _ HRr.out Try.underlying41 rfl hszC ?_)
                          | (clear tB; refine wpList_store_new rfl 41 (.tmp 11) (.tmp 36) rfl wr.heap.size L.toArray rfl rfl 41 zSt (heap_new wr _) hszA hsz1 hO ?_; intro w5 hs5 hb5 hg5 ho5; have HM5 := Lib.hid (HM.out.later (hb5 wr.heap.size wr (below_alloc wr _) (Nat.le_refl _))); have e4 := (cell_of_row w5 wr.heap.size 4 _ _ _ hg5).trans hL.out.1; have e5 := (cell_of_row w5 wr.heap.size 5 _ _ _ hg5).trans hL.out.2.1; have e6 := (cell_of_row w5 wr.heap.size 6 _ _ _ hg5).trans hL.out.2.2.1; have e7 := (cell_of_row w5 wr.heap.size 7 _ _ _ hg5).trans hL.out.2.2.2; have d50 := cell_of_row w5 g 0 _ _ _ HM5.out.cell; have d51 := cell_of_row w5 g 1 _ _ _ HM5.out.cell; simp only [List.getElem?_toArray, List.getElem?_cons_zero, List.getElem?_cons_succ] at d50 d51; clear hs5 hb5 ho5 hg5)
                          | (clear tD; refine wpList_load_row rfl 27 (.tmp 3) rfl w.heap.size rfl 27 C (0, 0) _ HM6.out.job Try.underlying27 rfl hszJ ?_)
                          | (clear tC; refine wpList_load_row rfl 27 (.tmp 3) rfl w.heap.size rfl 27 C (0, 0) _ HM5.out.job Try.underlying27 rfl hszJ ?_)
                          | (go_at_call 23; refine (HHk.out _ HM5.out.below).mono ?_; rintro e w6 ⟨rfl, hb6⟩; have HM6 := Lib.hid (HM5.out.later hb6); have e46 := cell_later hb6 e4; have e66 := cell_later hb6 e6; have d60 := cell_of_row w6 g 0 _ _ _ HM6.out.cell; have d61 := cell_of_row w6 g 1 _ _ _ HM6.out.cell; simp only [List.getElem?_toArray, List.getElem?_cons_zero, List.getElem?_cons_succ] at d60 d61; clear hb6)
                          | (go_at_call 18; refine (HOk.out _ HM6.out.below).mono ?_; rintro e w7 ⟨rfl, hb7⟩; have HM7 := Lib.hid (HM6.out.later hb7); have e47 := cell_later hb7 e46; have d70 := cell_of_row w7 g 0 _ _ _ HM7.out.cell; have d71 := cell_of_row w7 g 1 _ _ _ HM7.out.cell; have p7 := (cell_of_row w7 w.heap.size 12 _ _ _ HM7.out.job).trans HJp.out; simp only [List.getElem?_toArray, List.getElem?_cons_zero, List.getElem?_cons_succ] at d70 d71; clear hb7)
                          | go_in)
                        go_roundw
                        case rel => exact ⟨k + 1, As, cs, Ak, ck, by omega, by rw [HV.out], by go_num, Lib.hid (by rw [HV.out]; exact HM7.out)⟩
                        case measure => simp [intOf]; omega
                  · have HV : Hid (advK fai par l now on (k + 1) = a) := Lib.hid (by rw [HS2.out, if_neg (by simp [hat])])
                    go_wp2_with (first
                      | (clear tA; refine wpList_load_mid rfl 41 (.tmp 35) rfl b (o + k * 10) rfl L _ HRr.out Try.underlying41 rfl hszC ?_)
                      | (clear tB; refine wpList_store_new rfl 41 (.tmp 11) (.tmp 36) rfl wr.heap.size L.toArray rfl rfl 41 zSt (heap_new wr _) hszA hsz1 hO ?_; intro w5 hs5 hb5 hg5 ho5; have HM5 := Lib.hid (HM.out.later (hb5 wr.heap.size wr (below_alloc wr _) (Nat.le_refl _))); have e4 := (cell_of_row w5 wr.heap.size 4 _ _ _ hg5).trans hL.out.1; have e5 := (cell_of_row w5 wr.heap.size 5 _ _ _ hg5).trans hL.out.2.1; have e6 := (cell_of_row w5 wr.heap.size 6 _ _ _ hg5).trans hL.out.2.2.1; have e7 := (cell_of_row w5 wr.heap.size 7 _ _ _ hg5).trans hL.out.2.2.2; have d50 := cell_of_row w5 g 0 _ _ _ HM5.out.cell; have d51 := cell_of_row w5 g 1 _ _ _ HM5.out.cell; simp only [List.getElem?_toArray, List.getElem?_cons_zero, List.getElem?_cons_succ] at d50 d51; clear hs5 hb5 ho5 hg5)
                      | (clear tD; refine wpList_load_row rfl 27 (.tmp 3) rfl w.heap.size rfl 27 C (0, 0) _ HM6.out.job Try.underlying27 rfl hszJ ?_)
                      | (clear tC; refine wpList_load_row rfl 27 (.tmp 3) rfl w.heap.size rfl 27 C (0, 0) _ HM5.out.job Try.underlying27 rfl hszJ ?_)
                      | (go_at_call 23; refine (HHk.out _ HM5.out.below).mono ?_; rintro e w6 ⟨rfl, hb6⟩; have HM6 := Lib.hid (HM5.out.later hb6); have e46 := cell_later hb6 e4; have e66 := cell_later hb6 e6; have d60 := cell_of_row w6 g 0 _ _ _ HM6.out.cell; have d61 := cell_of_row w6 g 1 _ _ _ HM6.out.cell; simp only [List.getElem?_toArray, List.getElem?_cons_zero, List.getElem?_cons_succ] at d60 d61; clear hb6)
                      | (go_at_call 18; refine (HOk.out _ HM6.out.below).mono ?_; rintro e w7 ⟨rfl, hb7⟩; have HM7 := Lib.hid (HM6.out.later hb7); have e47 := cell_later hb7 e46; have d70 := cell_of_row w7 g 0 _ _ _ HM7.out.cell; have d71 := cell_of_row w7 g 1 _ _ _ HM7.out.cell; have p7 := (cell_of_row w7 w.heap.size 12 _ _ _ HM7.out.job).trans HJp.out; simp only [List.getElem?_toArray, List.getElem?_cons_zero, List.getElem?_cons_succ] at d70 d71; clear hb7)
                      | go_in)
                    go_roundw
                    case rel => exact ⟨k + 1, As, cs, Ak, ck, by omega, by rw [HV.out], by go_num, Lib.hid (by rw [HV.out]; exact HM7.out)⟩
                    case measure => simp [intOf]; omega
              · have HV : Hid (advK fai par l now on (k + 1) = ⟨a.start, a.skip ++ [(k, 5)]⟩) := Lib.hid (by rw [HS1.out, if_neg hun, if_pos hqh])
                go_wp2_with (first
                  | (clear tA; refine wpList_load_mid rfl 41 (.tmp 35) rfl b (o + k * 10) rfl L _ HRr.out Try.underlying41 rfl hszC ?_)
                  | (clear tB; refine wpList_store_new rfl 41 (.tmp 11) (.tmp 36) rfl wr.heap.size L.toArray rfl rfl 41 zSt (heap_new wr _) hszA hsz1 hO ?_; intro w5 hs5 hb5 hg5 ho5; have HM5 := Lib.hid (HM.out.later (hb5 wr.heap.size wr (below_alloc wr _) (Nat.le_refl _))); have e4 := (cell_of_row w5 wr.heap.size 4 _ _ _ hg5).trans hL.out.1; have e5 := (cell_of_row w5 wr.heap.size 5 _ _ _ hg5).trans hL.out.2.1; have e6 := (cell_of_row w5 wr.heap.size 6 _ _ _ hg5).trans hL.out.2.2.1; have e7 := (cell_of_row w5 wr.heap.size 7 _ _ _ hg5).trans hL.out.2.2.2; have d50 := cell_of_row w5 g 0 _ _ _ HM5.out.cell; have d51 := cell_of_row w5 g 1 _ _ _ HM5.out.cell; simp only [List.getElem?_toArray, List.getElem?_cons_zero, List.getElem?_cons_succ] at d50 d51; clear hs5 hb5 ho5 hg5)
                  | (clear tC; refine wpList_load_row rfl 27 (.tmp 3) rfl w.heap.size rfl 27 C (0, 0) _ HM5.out.job Try.underlying27 rfl hszJ ?_)
                  | (go_at_call 23; refine (HHk.out _ HM5.out.below).mono ?_; rintro e w6 ⟨rfl, hb6⟩; have HM6 := Lib.hid (HM5.out.later hb6); have e46 := cell_later hb6 e4; have e66 := cell_later hb6 e6; have d60 := cell_of_row w6 g 0 _ _ _ HM6.out.cell; have d61 := cell_of_row w6 g 1 _ _ _ HM6.out.cell; simp only [List.getElem?_toArray, List.getElem?_cons_zero, List.getElem?_cons_succ] at d60 d61; clear hb6)
                  | (at_builtin; refine wpList_append_k _ rfl (.tmp 59) (.tmp 62) 32 rfl 48 ik _ 2 16 Try.underlying32 hk hk0 hk1 hk2 rfl (by decide) w.heap.size _ a.skip.length (skV a.skip) rfl (HM6.out.later (below_alloc w6 (.cells #[.int .i64 (k : Int), .int .i64 5] 48))).adv.k (some ⟨w6.heap.size, 0, none⟩) 1 1 [.int .i64 (k : Int), .int .i64 5] rfl rfl (fun _ => news_new w6 _ _) (by intro u hu; simp at hu; rcases hu with rfl | rfl <;> rfl) (by unfold maxLen; omega) (by omega) (HM6.out.later (below_alloc w6 _)).below.size ?_; intro A' c' w8 ho8 hg8 hn8; have h8 := (HM6.out.later (below_alloc w6 (.cells #[.int .i64 (k : Int), .int .i64 5] 48))).cellK hg8; obtain ⟨k8, f8⟩ := cells_of_heap h8; have k81 := k8 1; have f81 := f8 1; clear k8 f8 h8; have HN := Lib.hid ((HM6.out.later (below_alloc w6 (.cells #[.int .i64 (k : Int), .int .i64 5] 48))).skip ho8 hg8 hn8); clear ho8 hg8 hn8)
                  | go_in)
                go_roundw
                case rel => exact ⟨k + 1, As, cs, A', c', by omega, by rw [HV.out], by go_num, Lib.hid (by rw [HV.out]; exact HN.out)⟩
                case measure => simp [intOf]; omega
        · obtain rfl : k = l.length := by omega
          clear hlt
          rw [← HR.out] at HM
          have hadv := HM.out.adv
          have hcell := HM.out.cell
          have hres := HM.out.res
          have hbel := HM.out.below
          have hgg := HM.out.g0
          go_wp2_with (first
            | (refine wpList_load_row rfl 34 (.tmp 7) rfl g rfl 34 _ (0, 0) _ hcell Try.underlying34 rfl szAd ?_)
            | (refine wpList_store_new rfl 34 (.tmp 6) (.tmp 97) rfl (w.heap.size + 1) #[.slice As R.start.length cs, .slice Ak R.skip.length ck] rfl rfl 34 #[.slice none 0 0, .slice none 0 0] hres szAd rfl rfl ?_; intro w8 hs8 hb8 hg8 ho8)
            | go_in)
          refine bodyPost_ret (results_cell_row rfl _ _ (w.heap.size + 1) 34 _ (0, 0) _ rfl hg8 Try.underlying34 rfl szAd) rfl ?_
          have hmv : Moved (fun j => j = w.heap.size + 1) wr w8 := ⟨(hb8 0 wr (Below.refl _ _) (Nat.zero_le _)).os, (hb8 0 wr (Below.refl _ _) (Nat.zero_le _)).tape, (hb8 0 wr (Below.refl _ _) (Nat.zero_le _)).output, by omega, fun j _ hj => ho8 j hj⟩
          exact ⟨As, cs, Ak, ck, rfl, ⟨own_moved hadv.s hmv (fun j hj e => by subst e; exact own_ne hadv.s hres (by decide) hj), own_moved hadv.k hmv (fun j hj e => by subst e; exact own_ne hadv.k hres (by decide) hj)⟩, hb8 w.heap.size w hbel (by omega)⟩
end Go.Proofs.Ytcbnankocjlobaa
