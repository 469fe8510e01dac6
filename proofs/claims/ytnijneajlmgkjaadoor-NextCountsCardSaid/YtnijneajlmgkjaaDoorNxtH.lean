/- The iterator over the moments that match, on both ways. -/
import Derived.Test.YtnijneajlmgkjaaDoorNxtH0
import Derived.Test.YtnijneajlmgkjaaDoorNxtG
import Derived.Test.YtnijneajlmgkjaaDoorCroO
set_option linter.unusedSimpArgs false
set_option linter.unusedVariables false
namespace Go.Proofs.YtnijneajlmgkjaaDoor
open Go.ChangeShapes Go.WideShapes Go.ChangeAt Go.RowKit Go.Base Go.Civ Go.Nxt Go.Cro Go.Shelf
attribute [local go_sem] Oper.semAt_some

set_option maxRecDepth 100000 in
set_option maxHeartbeats 4000000 in
theorem mom_fw (nn : Nat) (hnn : 30 ≤ nn) (s : Sp) (hs : SpOk s) (M H : Nat) (hM : s.mi = M) (hH : s.ho = H) (t n y : Int) (k dd hh mm : Nat) (sec : Int) (hAt : At t n y k sec) (hdd : n + 719162 - ah y - cum y k + 1 = dd) (hhh : sec / 3600 = hh) (hmm : sec % 3600 / 60 = mm) (pt pw ps : Nat) (w : World)
    (hpt : w.heap[pt]? = some (.cells #[.int .i64 t] 3 (0, 0))) (hpw : w.heap[pw]? = some (.cells fwC 45 (0, 0))) (hps : w.heap[ps]? = some (.cells (specC s.mi s.ho s.da s.mo s.we s.ad s.aw) 24 (0, 0))) (hT : TzTab w) (ht : Tab w)
    (hg : 1 < w.heap.size) (hg2 : 2 < w.heap.size) :
    SeqO Fence.wide nn Tryd.prog 47 #[ptrV pt, ptrV pw, ptrV ps] (fun x : Int => #[.int .i64 x])
      (fun k => k = pw ∨ k = ps ∨ k = pt ∨ k = 1 ∨ k = 2) (momL true s H M (y * 12 + ((k : Int) + 1) - 1) dd (fl t 86400) hh mm) w := fun l J Jx W hWb hJ hJx hY h0 => by
  obtain ⟨f0, hf0⟩ : ∃ f0, f0 = fuel0 true (y * 12 + ((k : Int) + 1) - 1) := ⟨_, rfl⟩
  have hk := hAt.k1
  have hy0 := hAt.y0
  have hy1 := hAt.y1
  have hFu : Fuel true f0 (y * 12 + ((k : Int) + 1) - 1) := hf0 ▸ fuel_ok _ _ (by omega) (by omega)
  have hdd62 : dd ≤ 62 := by have := at_date hAt; omega
  have hhd := at_date hAt
  have hh62 : hh ≤ 62 := by omega
  have hm62 : mm ≤ 62 := by omega
  obtain ⟨LL, hLL⟩ : ∃ LL, LL = midL true s f0 (y * 12 + ((k : Int) + 1) - 1) (since true (mdays s (y * 12 + ((k : Int) + 1) - 1)) dd) 0 := ⟨_, rfl⟩
  have hmom : momL true s H M (y * 12 + ((k : Int) + 1) - 1) dd (fl t 86400) hh mm = LL.flatMap (dayL true H M (fl t 86400) hh mm) := by rw [hLL, hf0]; rfl
  rw [hmom] at hY ⊢
  have hbd : ∀ x ∈ LL, -62135596800 ≤ x ∧ x ≤ 253402214400 := fun x hx => midL_bd (since_in (mdays_in _ _)) (hLL ▸ hx)
  have hfl : fl t 86400 = 86400 * n := by have h1 := hAt.day; have h2 := hAt.s0; have h3 := hAt.s1; have h4 := hAt.lo; have h5 := hAt.hi; unfold fl; rw [if_neg (by omega), if_neg (by omega)]; omega
  have hOf := fun V hV => of_at t n y k sec V hV hAt
  simp only [hdd, hhh, hmm] at hOf
  have hFl := fun V => floor_any t 86400 V (by have := hAt.lo; omega) (by have := hAt.hi; omega) (by omega)
  obtain ⟨TD, hTD⟩ : ∃ TD, TD = fl t 86400 := ⟨_, rfl⟩
  rw [← hTD] at hFl hY hfl ⊢
  obtain ⟨MM, hMM⟩ : ∃ MM, MM = LL.flatMap (dayL true H M TD hh mm) := ⟨_, rfl⟩
  rw [← hMM] at hY ⊢
  have HMM := Lib.hid hMM
  clear hMM
  have hn1 : -719162 ≤ n ∧ n ≤ 2932896 := by have := hAt.day; have := hAt.s0; have := hAt.s1; have := hAt.lo; have := hAt.hi; omega
  have hM64 : M < 18446744073709551616 := by have h1 := hs.mi.2; rw [hM] at h1; omega
  have hH64 : H < 18446744073709551616 := by have h1 := hs.ho.2; rw [hH] at h1; omega
  have htb : -62135596800 ≤ t ∧ t ≤ 253402300799 := ⟨hAt.lo, hAt.hi⟩
  refine callsIn_of_wp_marks Tryd.func47 rfl trivial ?_ rfl
  simp only [Tryd.ntmps47, List.size_toArray, List.length_cons, List.length_nil, Nat.reduceAdd, Nat.reduceSub, Array.replicate_succ, Array.replicate_zero, List.push_toArray, List.append_toArray, List.nil_append, List.cons_append]
  have hbW : ∀ {k : Nat} {o : Obj}, w.heap[k]? = some o → W.heap[k]? = some o := fun h => (hWb.block _ (heap_lt h)).trans h
  have kpw := hbW hpw
  have kps := hbW hps
  have kpt := hbW hpt
  have HTz : Hid (∀ V, Below W.heap.size W V → TzTab V) := Lib.hid (fun V hV => (hT.later hWb).later hV)
  have HTb : Hid (∀ V, Below W.heap.size W V → Tab V) := Lib.hid (fun V hV => (ht.later hWb).later hV)
  have hgW : 1 < W.heap.size := Nat.lt_of_lt_of_le hg hWb.size
  have hg2W : 2 < W.heap.size := Nat.lt_of_lt_of_le hg2 hWb.size
  have lpw := heap_lt kpw
  have lps := heap_lt kps
  have lpt := heap_lt kpt
  have HKw : Hid (∀ V, Below W.heap.size W V → V.heap[pw]? = some (.cells fwC 45 (0, 0))) := Lib.hid (fun V hV => (hV.block _ lpw).trans kpw)
  have HKs : Hid (∀ V, Below W.heap.size W V → V.heap[ps]? = some (.cells (specC s.mi s.ho s.da s.mo s.we s.ad s.aw) 24 (0, 0))) := Lib.hid (fun V hV => (hV.block _ lps).trans kps)
  have HKt : Hid (∀ V, Below W.heap.size W V → V.heap[pt]? = some (.cells #[.int .i64 t] 3 (0, 0))) := Lib.hid (fun V hV => (hV.block _ lpt).trans kpt)
  have HOf := Lib.hid hOf
  have HFl := Lib.hid hFl
  have HBd := Lib.hid hbd
  have HFu := Lib.hid hFu
  have HLL := Lib.hid hLL
  have HTD := Lib.hid hfl
  clear hpw hps hpt hT ht hg hg2 hbW hOf hFl hbd hFu hLL hTD hfl hmom hAt hhd kpw kps
  have c0 : ∀ o, (W.alloc o).cell? ⟨pt, 0, none⟩ = some (.int .i64 t) := fun o => cell_of_row _ _ 0 _ _ _ (heap_old o lpt kpt)
  clear kpt
  have hnn1 : 1 ≤ nn := by omega
  have HM := Lib.hid hM
  have HH := Lib.hid hH
  clear hM hH
  gi_wp2_with (refine ⟨trivial, ?_⟩; gi_at_call 25; refine (callsIn_wide.2 (HOf.out _ (HTb.out _ (below_alloc W _)))).mono ?_; rintro e w1 ⟨rfl, hb1⟩; have HB1 := Lib.hid ((below_alloc W _).trans (hb1.mono (by simp))); have z1 := hb1.size; rw [World.size_alloc] at z1; have y1 := (hb1.block _ (by rw [World.size_alloc]; omega)).trans (heap_new W _); have HY1 := Lib.hid y1; clear hb1 y1 c0; have d0 : ∀ o, (w1.alloc o).cell? ⟨pt, 0, none⟩ = some (.int .i64 t) := fun o => cell_of_row _ _ 0 _ _ _ (HKt.out _ (HB1.out.alloc HB1.out.size o)))
  refine ⟨trivial, ?_⟩
  gi_at_call 23
  refine (callsIn_wide.2 (HFl.out _)).mono ?_
  rintro e V1 ⟨rfl, hV1⟩
  have hB1 : Below W.heap.size W V1 := hV1 ▸ HB1.out.alloc HB1.out.size _
  have zV1 : V1.heap.size = w1.heap.size + 1 := by rw [← hV1]; simp
  have v1d : V1.heap[w1.heap.size]? = some (.cells (dateC y ((k : Int) + 1) dd hh mm (sec % 60) (wd n)) 43 (0, 0)) := by rw [← hV1]; exact heap_new _ _
  have v1y : V1.heap[W.heap.size]? = some (.cells #[.func (.yield l) #[] #[]] 66 (0, 0)) := by rw [← hV1]; exact heap_old _ (by omega) HY1.out
  clear hV1 d0
  have e1 : ∀ o, (∀ i, (V1.alloc o).cell? ⟨pw, i, none⟩ = (fwC)[i]?) := fun o => (cells_of_heap (HKw.out _ (hB1.alloc hB1.size o))).1
  have e2 : ∀ o, (∀ i, (V1.alloc o).cell? ⟨ps, i, none⟩ = (specC s.mi s.ho s.da s.mo s.we s.ad s.aw)[i]?) := fun o => (cells_of_heap (HKs.out _ (hB1.alloc hB1.size o))).1
  have e3 : ∀ o, (∀ i, (V1.alloc o).cell? ⟨w1.heap.size, i, none⟩ = (dateC y ((k : Int) + 1) dd hh mm (sec % 60) (wd n))[i]?) := fun o => (cells_of_heap (heap_old o (heap_lt v1d) v1d)).1
  have HB1' := Lib.hid hB1
  have HV1d := Lib.hid v1d
  have HV1y := Lib.hid v1y
  have HZ1 := Lib.hid zV1
  clear hB1 v1d v1y zV1
  gi_wp2_with fail
  refine ⟨trivial, ?_⟩
  gi_at_call 48
  refine (callsIn_wide.2 (midMk_fw s.mi s.ho s.da s.mo s.we s.ad s.aw y ((k : Int) + 1) dd hh mm (sec % 60) (wd n) _)).mono ?_
  rintro e V ⟨rfl, hV⟩
  have hBV : Below W.heap.size W V := by rw [hV]; exact ((((HB1'.out.alloc HB1'.out.size _).alloc (by simp; have := HB1'.out.size; omega) _).alloc (by simp; have := HB1'.out.size; omega) _).alloc (by simp; have := HB1'.out.size; omega) _)
  have zV : V.heap.size = V1.heap.size + 4 := by rw [hV]; simp
  have bV : Below V1.heap.size V1 V := by rw [hV]; exact ((((below_alloc V1 _).alloc (by simp) _).alloc (by simp; omega) _).alloc (by simp; omega) _)
  have vy := (bV.block _ (heap_lt HV1y.out)).trans HV1y.out
  have vd := (bV.block _ (heap_lt HV1d.out)).trans HV1d.out
  have vt : V.heap[V1.heap.size]? = some (.cells #[.int .i64 TD] 3 (0, 0)) := by
    rw [hV]; exact heap_old _ (by simp; omega) (heap_old _ (by simp; omega) (heap_old _ (by simp) (heap_new V1 _)))
  have vw : V.heap[V1.heap.size + 1]? = some (.cells fwC 45 (0, 0)) := by
    rw [hV]
    have h8 := heap_new (V1.alloc (.cells #[.int .i64 TD] 3)) (.cells fwC 45)
    rw [World.size_alloc] at h8
    exact heap_old _ (by simp) (heap_old _ (by simp) h8)
  have vs : V.heap[V1.heap.size + 2]? = some (.cells (specC s.mi s.ho s.da s.mo s.we s.ad s.aw) 24 (0, 0)) := by
    rw [hV]
    have h8 := heap_new ((V1.alloc (.cells #[.int .i64 TD] 3)).alloc (.cells fwC 45)) (.cells (specC s.mi s.ho s.da s.mo s.we s.ad s.aw) 24)
    rw [World.size_alloc, World.size_alloc] at h8
    exact heap_old _ (by simp) h8
  have vdd : V.heap[V1.heap.size + 3]? = some (.cells (dateC y ((k : Int) + 1) dd hh mm (sec % 60) (wd n)) 43 (0, 0)) := by
    rw [hV]
    have h8 := heap_new (((V1.alloc (.cells #[.int .i64 TD] 3)).alloc (.cells fwC 45)).alloc (.cells (specC s.mi s.ho s.da s.mo s.we s.ad s.aw) 24)) (.cells (dateC y ((k : Int) + 1) dd hh mm (sec % 60) (wd n)) 43)
    rw [World.size_alloc, World.size_alloc, World.size_alloc] at h8
    exact h8
  clear hV e1 e2 e3
  have zB1 := HB1'.out.size
  have zV1 := HZ1.out
  let C : Nat → Prop := fun k => k = pw ∨ k = ps ∨ k = pt ∨ k = 1 ∨ k = 2
  let Q : Nat → Prop := fun k => W.heap.size ≤ k ∧ k < V.heap.size
  let K : Nat → Prop := fun k => C k ∨ Q k
  let f : List Int → List Int := fun pre => pre.flatMap (dayL true H M TD hh mm)
  have hQ : ∀ k, Q k → W.heap.size ≤ k ∧ k < V.heap.size := fun k hk => hk
  have hC : ∀ k, C k → k < W.heap.size := fun k hk => by rcases hk with rfl | rfl | rfl | rfl | rfl <;> assumption
  have hK : ∀ k, K k → k < V.heap.size := fun k hk => by
    rcases hk with hk | hk
    · have := hC k hk; omega
    · exact (hQ k hk).2
  have HJ := Lib.hid hJ
  have HJx := Lib.hid hJx
  have HY := Lib.hid hY
  have HQ := Lib.hid hQ
  have HC := Lib.hid hC
  have HK := Lib.hid hK
  have HZ := Lib.hid zV
  have HVY := Lib.hid vy
  have HVT := Lib.hid vt
  have HVD := Lib.hid vd
  have HVW := Lib.hid (HKw.out V hBV)
  have HVS := Lib.hid (HKs.out V hBV)
  have HI1 := Lib.hid (mine_abides (Q := Q) (K := K) (V := V) (f := f) hJ (by omega) hQ hK)
  have HX1 := Lib.hid (fun c => minex_abides (α := Int) (Q := Q) (K := K) (V := V) (M := MM) hJx (by omega) hQ hK c)
  have hI0 : Mine J Q K V f (fun _ => False) [] V := ⟨hJ.turn h0 (fun _ h => h.elim) (Moved.weaken (Below.movedNew (p := fun _ => False) hBV) (fun _ _ h => h.elim)) (fun k hk => by
      rcases hk with hk | hk
      · exact hk.elim
      · exact hQ k hk) (fun k hk => by
      rcases hk with hk | hk
      · exact hk.elim
      · exact .inr hk.1), Moved.refl _ _⟩
  have hseq := mid_fw (nn - 1) (by omega) s hs y ((k : Int) + 1) dd hh mm (sec % 60) (wd n) hy0 hy1 (by omega) (by omega) hdd62 (V1.heap.size + 1 + 2) (V1.heap.size + 1) (V1.heap.size + 1 + 1) V vdd vw vs (HTz.out V hBV) (HTb.out V hBV) (by omega) (by omega) f0 HFu.out
  rw [← HLL.out] at hseq
  clear hJ hJx hY hQ hK hC vy vd vt vw vs vdd zV1
  gi_wp2_with fail
  refine wpIn_rangeFunc_O rfl hnn1 (gf := 65) (lb := #[ptrV (V1.heap.size + 1 + 2), ptrV (V1.heap.size + 1), ptrV (V1.heap.size + 1 + 1)]) rfl trivial (enters_of Tryd.func65 (by kernel_rfl) rfl)
    hseq (Below.refl _ _) (fun k hk => by
      rcases hk with rfl | rfl | rfl | rfl | rfl
      · omega
      · omega
      · omega
      · omega
      · omega) (fun _ => rfl)
    (Mine J Q K V f) (fun c O _ X => MineX Jx Q K V MM c O X) HI1.out HX1.out hI0 ?hround ?hdone ?hstop
  clear hseq hI0 h0
  case hround =>
    intro l1 O1 pre x X hOl hO1 hI hpre
    obtain ⟨hJ1, hM1⟩ := hI
    have hxb := HBd.out x (prefix_mem hpre)
    have HJ1 := Lib.hid hJ1
    have HM1 := Lib.hid hM1
    have HO1 := Lib.hid hO1
    have HOl := Lib.hid hOl
    have HP1 := Lib.hid hpre
    have zX := hM1.size
    have HZX : Hid (V.heap.size ≤ X.heap.size) := Lib.hid zX
    clear hJ1 hM1 hO1 hOl hpre zX
    simp only [List.zip_toArray, List.zip_cons_cons, List.zip_nil_left, List.zip_nil_right, List.size_toArray, List.length_cons, List.length_nil, List.foldl_toArray', List.foldl_cons, List.foldl_nil, List.setIfInBounds_toArray, List.set_cons_succ, List.set_cons_zero]
    gi_wp2_with fail
    refine ⟨(Moved.refl _ X).alloc _, fun r X3 hX3 => ?_⟩
    have hl1X : l1 < X.heap.size := (HO1.out l1 HOl.out).2
    have z3 : X3.heap.size = X.heap.size + 1 := by rw [hX3]; simp [World.putObj]
    have m3 : Moved O1 X X3 := by
      rw [hX3]; exact ((Moved.refl _ X).alloc _).trans (moved_putObjO _ _ HOl.out) (fun _ _ h => h)
    have x5 : X3.heap[X.heap.size]? = some (.cells #[.int .i64 x] 3 (0, 0)) := by
      rw [hX3]; exact (World.putObj_heap_other (by omega)).trans (heap_new X _)
    have xl : X3.heap[l1]? = some (.loop r) := by
      rw [hX3]; exact World.putObj_heap_same (by simp; omega)
    clear hX3 hl1X
    have mV : Moved (fun k => ¬ K k) V X3 := HM1.out.trans m3 (fun k hk ho hn => by have := (HO1.out k ho).1; omega)
    have keep : ∀ {k : Nat} {o : Obj}, K k → V.heap[k]? = some o → X3.heap[k]? = some o := fun hk ho => mV.heap ho (fun hn => hn hk)
    have hTX : TzTab X3 := (HTz.out V hBV).moved mV (fun hn => hn (.inl (.inr (.inr (.inr (.inl rfl))))))
    have HZ3 := Lib.hid z3
    have HM3 := Lib.hid m3
    have HMV := Lib.hid mV
    have HX5 := Lib.hid x5
    have HXl := Lib.hid xl
    have HTX := Lib.hid hTX
    have zX := HZX.out
    have zV := HZ.out
    have kw := Lib.hid (keep (.inl (.inl rfl)) HVW.out)
    have ks := Lib.hid (keep (.inl (.inr (.inl rfl))) HVS.out)
    have kd := Lib.hid (keep (.inr ⟨by omega, heap_lt HVD.out⟩) HVD.out)
    have kt := Lib.hid (keep (.inr ⟨by omega, heap_lt HVT.out⟩) HVT.out)
    have ky := Lib.hid (keep (.inr ⟨Nat.le_refl _, heap_lt HVY.out⟩) HVY.out)
    clear m3 mV hTX keep x5 xl z3
    have w0 := (cells_of_heap kw.out).1
    -- the world behind the box 'from'
    have hB4 : ∀ o, Below X3.heap.size X3 (X3.alloc o) := fun o => below_alloc X3 o
    have g5 : ∀ o, (X3.alloc o).cell? ⟨X.heap.size, 0, none⟩ = some (.int .i64 x) := fun o => cell_of_row _ _ 0 _ _ _ (heap_old o (heap_lt HX5.out) HX5.out)
    have gt : ∀ o, (X3.alloc o).cell? ⟨V1.heap.size, 0, none⟩ = some (.int .i64 TD) := fun o => cell_of_row _ _ 0 _ _ _ (heap_old o (heap_lt kt.out) kt.out)
    have gs : ∀ o, (∀ i, (X3.alloc o).cell? ⟨ps, i, none⟩ = (specC s.mi s.ho s.da s.mo s.we s.ad s.aw)[i]?) := fun o => (cells_of_heap (heap_old o (heap_lt ks.out) ks.out)).1
    have gw : ∀ o, (∀ i, (X3.alloc o).cell? ⟨pw, i, none⟩ = (fwC)[i]?) := fun o => (cells_of_heap (heap_old o (heap_lt kw.out) kw.out)).1
    have gd : ∀ o, (∀ i, (X3.alloc o).cell? ⟨w1.heap.size, i, none⟩ = (dateC y ((k : Int) + 1) dd hh mm (sec % 60) (wd n))[i]?) := fun o => (cells_of_heap (heap_old o (heap_lt kd.out) kd.out)).1
    have hn2 : 1 ≤ nn - 1 - 1 := by omega
    have hn4 : 1 ≤ nn - 1 - 1 - 1 - 1 := by omega
    by_cases hh9 : x = TD
    · have hhb : (x == TD) = true := by simp; omega
      have hf : dayL true H M TD hh mm x = (clockL true H M hh mm).map fun c : Int => x + c := by simp [dayL, hh9]
      have HF := Lib.hid hf
      clear hh9 hf
      gi_wp2_with fail
      refine ⟨trivial, ?_⟩
      gi_at_call 49
      refine (CallsIn.inRound l1 (callsIn_wide.2 (clockMk_fw s.mi s.ho s.da s.mo s.we s.ad s.aw y ((k : Int) + 1) dd hh mm (sec % 60) (wd n) _))).mono ?_
      rintro e V6 ⟨rfl, hV6⟩
      have hB6 : Below X3.heap.size X3 V6 := by rw [hV6]; exact ((((below_alloc X3 _).alloc (by simp) _).alloc (by simp; omega) _).alloc (by simp; omega) _)
      have z6 : V6.heap.size = X3.heap.size + 4 := by rw [hV6]; simp
      have v6w : V6.heap[X3.heap.size + 1]? = some (.cells fwC 45 (0, 0)) := by
        rw [hV6]
        have h8 := heap_new (X3.alloc (.cells (dateC y ((k : Int) + 1) dd hh mm (sec % 60) (wd n)) 43)) (.cells fwC 45)
        rw [World.size_alloc] at h8
        exact heap_old _ (by simp) (heap_old _ (by simp) h8)
      have v6s : V6.heap[X3.heap.size + 1 + 1]? = some (.cells (specC s.mi s.ho s.da s.mo s.we s.ad s.aw) 24 (0, 0)) := by
        rw [hV6]
        have h8 := heap_new ((X3.alloc (.cells (dateC y ((k : Int) + 1) dd hh mm (sec % 60) (wd n)) 43)).alloc (.cells fwC 45)) (.cells (specC s.mi s.ho s.da s.mo s.we s.ad s.aw) 24)
        rw [World.size_alloc, World.size_alloc] at h8
        exact heap_old _ (by simp) h8
      have v6d : V6.heap[X3.heap.size + 1 + 2]? = some (.cells (dateC y ((k : Int) + 1) dd hh mm (sec % 60) (wd n)) 43 (0, 0)) := by
        rw [hV6]
        have h8 := heap_new (((X3.alloc (.cells (dateC y ((k : Int) + 1) dd hh mm (sec % 60) (wd n)) 43)).alloc (.cells fwC 45)).alloc (.cells (specC s.mi s.ho s.da s.mo s.we s.ad s.aw) 24)) (.cells (dateC y ((k : Int) + 1) dd hh mm (sec % 60) (wd n)) 43)
        rw [World.size_alloc, World.size_alloc, World.size_alloc] at h8
        exact h8
      clear hV6 g5 gt gs gw gd hB4
      have z3 := HZ3.out
      have zX := HZX.out
      have zV := HZ.out
      let Q2 : Nat → Prop := fun k => O1 k ∨ Q k ∨ (X.heap.size ≤ k ∧ k < V6.heap.size)
      let K2 : Nat → Prop := fun k => K k ∨ Q2 k
      let f2 : List Int → List Int := fun pre2 => f pre ++ pre2.map fun c : Int => x + c
      have hQ2 : ∀ k, Q2 k → W.heap.size ≤ k ∧ k < V6.heap.size := fun k hk => by
        rcases hk with hk | hk | hk
        · have := HO1.out k hk; omega
        · have := HQ.out k hk; omega
        · omega
      have hK2 : ∀ k, K2 k → k < V6.heap.size := fun k hk => by
        rcases hk with hk | hk
        · have := HK.out k hk; omega
        · exact (hQ2 k hk).2
      have m36 : Moved (fun _ => False) X3 V6 := Below.movedNew hB6
      have hI20 : Mine J Q2 K2 V6 f2 (fun _ => False) [] V6 := by
        refine ⟨?_, Moved.refl _ _⟩
        have h9 := HJ1.out
        simp only [f2, List.map_nil, List.append_nil]
        refine HJ.out.turn h9 (fun k hk => ?_) ((HM3.out.trans m36 (fun _ _ h => h.elim)).weaken (fun k _ h => .inl h)) (fun k hk => ?_) (fun k hk => ?_)
        · rcases hk with hk | hk
          · have := HO1.out k hk; omega
          · have := HQ.out k hk; omega
        · rcases hk with hk | hk
          · exact hk.elim
          · exact hQ2 k hk
        · rcases hk with hk | hk | hk | hk
          · exact hk.elim
          · exact .inl (.inl hk)
          · exact .inl (.inr hk)
          · exact .inr hk.1
      have HI2 := Lib.hid (mine_abides (Q := Q2) (K := K2) (V := V6) (f := f2) HJ.out (by omega) hQ2 hK2)
      have HX2 := Lib.hid (fun c => minex_abides (α := Int) (Q := Q2) (K := K2) (V := V6) (M := MM) HJx.out (by omega) hQ2 hK2 c)
      have HQ2 := Lib.hid hQ2
      have HK2 := Lib.hid hK2
      have HM36 := Lib.hid m36
      have HY6 : Hid (V6.heap[W.heap.size]? = some (.cells #[.func (.yield l) #[] #[]] 66 (0, 0))) := Lib.hid (m36.heap (HMV.out.heap HVY.out (fun hn => hn (.inr ⟨Nat.le_refl _, by omega⟩))) (fun h => h))
      have HX56 : Hid (V6.heap[X.heap.size]? = some (.cells #[.int .i64 x] 3 (0, 0))) := Lib.hid (m36.heap HX5.out (fun h => h))
      have hT6 : TzTab V6 := HTX.out.moved m36 (fun h => h)
      have hl6 : V6.heap[l1]? = some (.loop r) := m36.heap HXl.out (fun h => h)
      have hKm : Hid (∀ k, K2 k → O1 k ∨ K k ∨ (X.heap.size ≤ k ∧ k < V6.heap.size)) := Lib.hid (fun k hk => by
        rcases hk with hk | hk | hk | hk
        · exact .inr (.inl hk)
        · exact .inl hk
        · exact .inr (.inl (.inr hk))
        · exact .inr (.inr hk))
      have hKC : Hid (∀ k, K2 k → Q2 k ∨ C k) := Lib.hid (fun k hk => by
        rcases hk with (hk | hk) | hk
        · exact .inr hk
        · exact .inl (.inr (.inl hk))
        · exact .inl hk)
      have hclk := clock_fw (nn - 1 - 1 - 1) (by omega) M H hh mm s.da s.mo s.we s.ad s.aw y ((k : Int) + 1) dd (sec % 60) (wd n) hM64 hH64 hh62 hm62 (X3.heap.size + 1) (X3.heap.size + 1 + 1) (X3.heap.size + 1 + 2) V6 v6w (by have h9 := v6s; rw [HM.out, HH.out] at h9; exact h9) (by have h9 := v6d; exact h9) hT6 (by have := hgW; omega)
      clear hQ2 hK2 m36 v6w v6s v6d
      clear z3
      gi_wp2_with fail
      have z3 := HZ3.out
      refine wpIn_rangeFunc_ON (F := Fence.wide.inRound l1) (l₀ := l1) (r₀ := r) rfl hl6 hn2 (gf := 68) (lb := #[ptrV (X3.heap.size + 1), ptrV (X3.heap.size + 1 + 1), ptrV (X3.heap.size + 1 + 2)]) rfl trivial (enters_of Tryd.func68 (by kernel_rfl) rfl)
        (SeqO.inRound l1 hclk) (Below.refl _ _) (fun k hk => by
          rcases hk with rfl | rfl | rfl | rfl
          · omega
          · omega
          · omega
          · have := HK.out _ (.inl (.inr (.inr (.inr (.inl rfl))))); omega) (fun _ => rfl)
        (Mine J Q2 K2 V6 f2) (fun c O _ Y => MineX Jx Q2 K2 V6 MM c O Y) HI2.out HX2.out hI20 ?hround2 ?hdone2 ?hstop2
      case hround2 =>
        intro l2 O2 pre2 c Y hOl2 hO2 hI hpre2
        obtain ⟨hJ2, hM2⟩ := hI
        have hcb := clockL_bd (prefix_mem hpre2)
        have hc0 := hcb.1
        have hc1 := hcb.2
        clear hcb
        have HO2 := Lib.hid hO2
        have HP2 := Lib.hid hpre2
        have HJ2 := Lib.hid hJ2
        have HM2 := Lib.hid hM2
        have HOl2 := Lib.hid hOl2
        clear hO2 hpre2 hJ2 hM2 hOl2 hT6 hl6 hI20 hclk w0
        simp only [List.zip_toArray, List.zip_cons_cons, List.zip_nil_left, List.zip_nil_right, List.size_toArray, List.length_cons, List.length_nil, List.foldl_toArray', List.foldl_cons, List.foldl_nil, List.setIfInBounds_toArray, List.set_cons_succ, List.set_cons_zero]
        gi_wp2_with fail
        refine ⟨Moved.refl _ Y, fun r2 Y3 hY3 => ?_⟩
        have mY : Moved (fun k => k = l2) Y Y3 := by rw [hY3]; exact moved_putObjO _ _ rfl
        clear hY3
        have hl2 := HO2.out _ HOl2.out
        have zM2 := HM2.out.size
        have hO2V : ∀ k, O2 k → V6.heap.size ≤ k := fun k hk => (HO2.out k hk).1
        have mV6 : Moved (fun k => ¬ K2 k) V6 Y3 := HM2.out.trans mY (fun k hk e hn => by have := HK2.out k hn; omega)
        have hY9 := cell_of_row Y3 W.heap.size 0 _ _ _ (mV6.heap HY6.out (fun hn => hn (.inr (.inr (.inl ⟨Nat.le_refl _, by omega⟩)))))
        have hY5 := cell_of_row Y3 X.heap.size 0 _ _ _ (mV6.heap HX56.out (fun hn => hn (.inr (.inr (.inr ⟨Nat.le_refl _, by omega⟩)))))
        have hown3 : OwnO W.heap.size (fun k => O2 k ∨ Q2 k) Y := fun k hk => by
          rcases hk with hk | hk
          · have := HO2.out k hk; omega
          · have := HQ2.out k hk; omega
        have hown : OwnO W.heap.size (fun k => O2 k ∨ Q2 k) Y3 := fun k hk => by have := hown3 k hk; have := mY.size; omega
        have hJ3 : J (fun k => O2 k ∨ Q2 k) (f2 pre2) Y3 := HJ.out.turn HJ2.out hown3 (mY.weaken (fun k _ e => .inl (e ▸ HOl2.out))) hown (fun k hk => .inl hk)
        have hpf : f2 pre2 ++ [x + c] <+: MM := by
          have h1 := map_prefix (f := fun c : Int => x + c) HP2.out
          rw [← HF.out, List.map_append] at h1
          have h2 := flat_prefix (f := dayL true H M TD hh mm) HP1.out h1
          rw [HMM.out]
          simpa [f2, f, List.append_assoc] using h2
        obtain ⟨fn, tmps, assign, body, hy, hR⟩ := (HY.out (fun k => O2 k ∨ Q2 k) (f2 pre2) (x + c) Y3 hown hJ3 hpf).deep (l0 := l2) (m' := nn - 1 - 1 - 1 - 1 - 1)
        have HR := Lib.hid hR
        have HPf := Lib.hid hpf
        have HMY := Lib.hid mV6
        clear hR hpf mV6 hJ3 hown hown3 hO2V mY zM2 hl2
        gi_wp2_with fail
        refine HR.out.mono ?_
        rintro e Y4 ⟨hcase, hM4⟩
        have mV4 : Moved (fun k => ¬ K2 k) V6 Y4 := HMY.out.trans hM4 (fun k _ hk hn => by
          rcases hKC.out k hn with h9 | h9
          · exact hk.1 (.inr h9)
          · exact hk.2 h9)
        have mR : Moved (fun k => ¬ O2 k ∧ ¬ (k = X3.heap.size + 1 ∨ k = X3.heap.size + 1 + 1 ∨ k = X3.heap.size + 1 + 2 ∨ k = 1)) Y3 Y4 := hM4.weaken (fun k _ hk => ⟨fun h9 => hk.1 (.inl h9), fun h9 => by
          rcases h9 with rfl | rfl | rfl | rfl
          · exact hk.1 (.inr (.inr (.inr ⟨by omega, by omega⟩)))
          · exact hk.1 (.inr (.inr (.inr ⟨by omega, by omega⟩)))
          · exact hk.1 (.inr (.inr (.inr ⟨by omega, by omega⟩)))
          · exact hk.2 (.inr (.inr (.inr (.inl rfl))))⟩)
        have HMR := Lib.hid mR
        have HMV4 := Lib.hid mV4
        have HM4 := Lib.hid hM4
        have hfs : f2 pre2 ++ [x + c] = f2 (pre2 ++ [c]) := by simp [f2, List.append_assoc]
        have HFs := Lib.hid hfs
        clear hM4 mV4 mR hfs
        rcases hcase with ⟨rfl, hJ4⟩ | ⟨rfl, hJx4⟩
        · have HJ4 := Lib.hid hJ4
          clear hJ4
          gi_wp2_with fail
          exact ⟨HMR.out, HFs.out ▸ HJ4.out, HMV4.out⟩
        · have HJ4 := Lib.hid hJx4
          clear hJx4
          gi_wp2_with fail
          exact ⟨HMR.out, rfl, ⟨_, HPf.out, HJ4.out⟩, HMV4.out⟩
      case hdone2 =>
        rintro O2 Y hO2 ⟨hJ2, hM2⟩
        have zM2 := hM2.size
        have hfs : f2 (clockL true H M hh mm) = f (pre ++ [x]) := by simp only [f2, f, List.flatMap_append, List.flatMap_cons, List.flatMap_nil, List.append_nil, HF.out]
        have hown3 : OwnO W.heap.size (fun k => O2 k ∨ Q2 k) Y := fun k hk => by
          rcases hk with hk | hk
          · have := hO2 k hk; omega
          · have := HQ2.out k hk; omega
        have hJ5 : J (fun k => O1 k ∨ Q k) (f (pre ++ [x])) Y := HJ.out.turn (hfs ▸ hJ2) hown3 (Moved.refl _ _) (fun k hk => by
          rcases hk with hk | hk
          · have := HO1.out k hk; omega
          · have := HQ.out k hk; omega) (fun k hk => by
          rcases hk with hk | hk
          · exact .inl (.inr (.inl hk))
          · exact .inl (.inr (.inr (.inl hk))))
        have m3Y : Moved (fun k => ¬ K2 k) X3 Y := (HM36.out.weaken (q := fun k => ¬ K2 k) (fun _ _ h => h.elim)).trans hM2 (fun _ _ h => h)
        have HM3Y := Lib.hid m3Y
        have HJ5 := Lib.hid hJ5
        clear hJ2 hM2 hJ5 m3Y hown3 hfs
        gi_wp2_with fail
        refine ⟨HM3Y.out.weaken (fun k _ hk => ⟨fun h9 => hk (.inr (.inl h9)), fun h9 => hk (.inl ?_)⟩), HJ5.out, HMV.out.trans HM3Y.out (fun k _ h9 hn => h9 (.inl hn))⟩
        rcases h9 with rfl | rfl | rfl | rfl | rfl
        · exact .inr ⟨by omega, by omega⟩
        · exact .inr ⟨by omega, by omega⟩
        · exact .inr ⟨by omega, by omega⟩
        · exact .inl (.inr (.inr (.inr (.inl rfl))))
        · exact .inl (.inr (.inr (.inr (.inr rfl))))
      case hstop2 =>
        rintro c O2 pre2 Y hO2 hpre2 ⟨rfl, ⟨q, hq, hx⟩, hM2⟩
        have zM2 := hM2.size
        have hown3 : OwnO W.heap.size (fun k => O2 k ∨ Q2 k) Y := fun k hk => by
          rcases hk with hk | hk
          · have := hO2 k hk; omega
          · have := HQ2.out k hk; omega
        have hJ5 : Jx (fun k => O1 k ∨ Q k) q Y := HJx.out.turn hx hown3 (Moved.refl _ _) (fun k hk => by
          rcases hk with hk | hk
          · have := HO1.out k hk; omega
          · have := HQ.out k hk; omega) (fun k hk => by
          rcases hk with hk | hk
          · exact .inl (.inr (.inl hk))
          · exact .inl (.inr (.inr (.inl hk))))
        have m3Y : Moved (fun k => ¬ K2 k) X3 Y := (HM36.out.weaken (q := fun k => ¬ K2 k) (fun _ _ h => h.elim)).trans hM2 (fun _ _ h => h)
        have HM3Y := Lib.hid m3Y
        have HJ5 := Lib.hid hJ5
        have HQq := Lib.hid hq
        clear hx hM2 hJ5 m3Y hown3 hq
        gi_wp2_with fail
        refine ⟨HM3Y.out.weaken (fun k _ hk => ⟨fun h9 => hk (.inr (.inl h9)), fun h9 => hk (.inl ?_)⟩), rfl, ⟨_, HQq.out, HJ5.out⟩, HMV.out.trans HM3Y.out (fun k _ h9 hn => h9 (.inl hn))⟩
        rcases h9 with rfl | rfl | rfl | rfl | rfl
        · exact .inr ⟨by omega, by omega⟩
        · exact .inr ⟨by omega, by omega⟩
        · exact .inr ⟨by omega, by omega⟩
        · exact .inl (.inr (.inr (.inr (.inl rfl))))
        · exact .inl (.inr (.inr (.inr (.inr rfl))))
    · have hhb : (x == TD) = false := by simp; omega
      have hf : dayL true H M TD hh mm x = (clockL true H M (startH true) (startM true)).map fun c : Int => x + c := by simp [dayL, hh9]
      have HF := Lib.hid hf
      clear hh9 hf
      gi_wp2_with fail
      refine ⟨trivial, ?_⟩
      gi_at_call 49
      refine (CallsIn.inRound l1 (callsIn_wide.2 (clockMk_fw s.mi s.ho s.da s.mo s.we s.ad s.aw 0 0 0 0 0 0 0 _))).mono ?_
      rintro e V6 ⟨rfl, hV6⟩
      have hB6 : Below X3.heap.size X3 V6 := by rw [hV6]; exact ((((below_alloc X3 _).alloc (by simp) _).alloc (by simp; omega) _).alloc (by simp; omega) _)
      have z6 : V6.heap.size = X3.heap.size + 4 := by rw [hV6]; simp
      have v6w : V6.heap[X3.heap.size + 1]? = some (.cells fwC 45 (0, 0)) := by
        rw [hV6]
        have h8 := heap_new (X3.alloc (.cells (dateC 0 0 0 0 0 0 0) 43)) (.cells fwC 45)
        rw [World.size_alloc] at h8
        exact heap_old _ (by simp) (heap_old _ (by simp) h8)
      have v6s : V6.heap[X3.heap.size + 1 + 1]? = some (.cells (specC s.mi s.ho s.da s.mo s.we s.ad s.aw) 24 (0, 0)) := by
        rw [hV6]
        have h8 := heap_new ((X3.alloc (.cells (dateC 0 0 0 0 0 0 0) 43)).alloc (.cells fwC 45)) (.cells (specC s.mi s.ho s.da s.mo s.we s.ad s.aw) 24)
        rw [World.size_alloc, World.size_alloc] at h8
        exact heap_old _ (by simp) h8
      have v6d : V6.heap[X3.heap.size + 1 + 2]? = some (.cells (dateC 0 0 0 0 0 0 0) 43 (0, 0)) := by
        rw [hV6]
        have h8 := heap_new (((X3.alloc (.cells (dateC 0 0 0 0 0 0 0) 43)).alloc (.cells fwC 45)).alloc (.cells (specC s.mi s.ho s.da s.mo s.we s.ad s.aw) 24)) (.cells (dateC 0 0 0 0 0 0 0) 43)
        rw [World.size_alloc, World.size_alloc, World.size_alloc] at h8
        exact h8
      clear hV6 g5 gt gs gw gd hB4
      have z3 := HZ3.out
      have zX := HZX.out
      have zV := HZ.out
      let Q2 : Nat → Prop := fun k => O1 k ∨ Q k ∨ (X.heap.size ≤ k ∧ k < V6.heap.size)
      let K2 : Nat → Prop := fun k => K k ∨ Q2 k
      let f2 : List Int → List Int := fun pre2 => f pre ++ pre2.map fun c : Int => x + c
      have hQ2 : ∀ k, Q2 k → W.heap.size ≤ k ∧ k < V6.heap.size := fun k hk => by
        rcases hk with hk | hk | hk
        · have := HO1.out k hk; omega
        · have := HQ.out k hk; omega
        · omega
      have hK2 : ∀ k, K2 k → k < V6.heap.size := fun k hk => by
        rcases hk with hk | hk
        · have := HK.out k hk; omega
        · exact (hQ2 k hk).2
      have m36 : Moved (fun _ => False) X3 V6 := Below.movedNew hB6
      have hI20 : Mine J Q2 K2 V6 f2 (fun _ => False) [] V6 := by
        refine ⟨?_, Moved.refl _ _⟩
        have h9 := HJ1.out
        simp only [f2, List.map_nil, List.append_nil]
        refine HJ.out.turn h9 (fun k hk => ?_) ((HM3.out.trans m36 (fun _ _ h => h.elim)).weaken (fun k _ h => .inl h)) (fun k hk => ?_) (fun k hk => ?_)
        · rcases hk with hk | hk
          · have := HO1.out k hk; omega
          · have := HQ.out k hk; omega
        · rcases hk with hk | hk
          · exact hk.elim
          · exact hQ2 k hk
        · rcases hk with hk | hk | hk | hk
          · exact hk.elim
          · exact .inl (.inl hk)
          · exact .inl (.inr hk)
          · exact .inr hk.1
      have HI2 := Lib.hid (mine_abides (Q := Q2) (K := K2) (V := V6) (f := f2) HJ.out (by omega) hQ2 hK2)
      have HX2 := Lib.hid (fun c => minex_abides (α := Int) (Q := Q2) (K := K2) (V := V6) (M := MM) HJx.out (by omega) hQ2 hK2 c)
      have HQ2 := Lib.hid hQ2
      have HK2 := Lib.hid hK2
      have HM36 := Lib.hid m36
      have HY6 : Hid (V6.heap[W.heap.size]? = some (.cells #[.func (.yield l) #[] #[]] 66 (0, 0))) := Lib.hid (m36.heap (HMV.out.heap HVY.out (fun hn => hn (.inr ⟨Nat.le_refl _, by omega⟩))) (fun h => h))
      have HX56 : Hid (V6.heap[X.heap.size]? = some (.cells #[.int .i64 x] 3 (0, 0))) := Lib.hid (m36.heap HX5.out (fun h => h))
      have hT6 : TzTab V6 := HTX.out.moved m36 (fun h => h)
      have hl6 : V6.heap[l1]? = some (.loop r) := m36.heap HXl.out (fun h => h)
      have hKm : Hid (∀ k, K2 k → O1 k ∨ K k ∨ (X.heap.size ≤ k ∧ k < V6.heap.size)) := Lib.hid (fun k hk => by
        rcases hk with hk | hk | hk | hk
        · exact .inr (.inl hk)
        · exact .inl hk
        · exact .inr (.inl (.inr hk))
        · exact .inr (.inr hk))
      have hKC : Hid (∀ k, K2 k → Q2 k ∨ C k) := Lib.hid (fun k hk => by
        rcases hk with (hk | hk) | hk
        · exact .inr hk
        · exact .inl (.inr (.inl hk))
        · exact .inl hk)
      have hclk := clock_fw (nn - 1 - 1 - 1) (by omega) M H (startH true) (startM true) s.da s.mo s.we s.ad s.aw 0 0 0 0 0 hM64 hH64 (by decide) (by decide) (X3.heap.size + 1) (X3.heap.size + 1 + 1) (X3.heap.size + 1 + 2) V6 v6w (by have h9 := v6s; rw [HM.out, HH.out] at h9; exact h9) (by have h9 := v6d; exact h9) hT6 (by have := hgW; omega)
      clear hQ2 hK2 m36 v6w v6s v6d
      clear z3
      gi_wp2_with fail
      have z3 := HZ3.out
      refine wpIn_rangeFunc_ON (F := Fence.wide.inRound l1) (l₀ := l1) (r₀ := r) rfl hl6 hn2 (gf := 68) (lb := #[ptrV (X3.heap.size + 1), ptrV (X3.heap.size + 1 + 1), ptrV (X3.heap.size + 1 + 2)]) rfl trivial (enters_of Tryd.func68 (by kernel_rfl) rfl)
        (SeqO.inRound l1 hclk) (Below.refl _ _) (fun k hk => by
          rcases hk with rfl | rfl | rfl | rfl
          · omega
          · omega
          · omega
          · have := HK.out _ (.inl (.inr (.inr (.inr (.inl rfl))))); omega) (fun _ => rfl)
        (Mine J Q2 K2 V6 f2) (fun c O _ Y => MineX Jx Q2 K2 V6 MM c O Y) HI2.out HX2.out hI20 ?hround2 ?hdone2 ?hstop2
      case hround2 =>
        intro l2 O2 pre2 c Y hOl2 hO2 hI hpre2
        obtain ⟨hJ2, hM2⟩ := hI
        have hcb := clockL_bd (prefix_mem hpre2)
        have hc0 := hcb.1
        have hc1 := hcb.2
        clear hcb
        have HO2 := Lib.hid hO2
        have HP2 := Lib.hid hpre2
        have HJ2 := Lib.hid hJ2
        have HM2 := Lib.hid hM2
        have HOl2 := Lib.hid hOl2
        clear hO2 hpre2 hJ2 hM2 hOl2 hT6 hl6 hI20 hclk w0
        simp only [List.zip_toArray, List.zip_cons_cons, List.zip_nil_left, List.zip_nil_right, List.size_toArray, List.length_cons, List.length_nil, List.foldl_toArray', List.foldl_cons, List.foldl_nil, List.setIfInBounds_toArray, List.set_cons_succ, List.set_cons_zero]
        gi_wp2_with fail
        refine ⟨Moved.refl _ Y, fun r2 Y3 hY3 => ?_⟩
        have mY : Moved (fun k => k = l2) Y Y3 := by rw [hY3]; exact moved_putObjO _ _ rfl
        clear hY3
        have hl2 := HO2.out _ HOl2.out
        have zM2 := HM2.out.size
        have hO2V : ∀ k, O2 k → V6.heap.size ≤ k := fun k hk => (HO2.out k hk).1
        have mV6 : Moved (fun k => ¬ K2 k) V6 Y3 := HM2.out.trans mY (fun k hk e hn => by have := HK2.out k hn; omega)
        have hY9 := cell_of_row Y3 W.heap.size 0 _ _ _ (mV6.heap HY6.out (fun hn => hn (.inr (.inr (.inl ⟨Nat.le_refl _, by omega⟩)))))
        have hY5 := cell_of_row Y3 X.heap.size 0 _ _ _ (mV6.heap HX56.out (fun hn => hn (.inr (.inr (.inr ⟨Nat.le_refl _, by omega⟩)))))
        have hown3 : OwnO W.heap.size (fun k => O2 k ∨ Q2 k) Y := fun k hk => by
          rcases hk with hk | hk
          · have := HO2.out k hk; omega
          · have := HQ2.out k hk; omega
        have hown : OwnO W.heap.size (fun k => O2 k ∨ Q2 k) Y3 := fun k hk => by have := hown3 k hk; have := mY.size; omega
        have hJ3 : J (fun k => O2 k ∨ Q2 k) (f2 pre2) Y3 := HJ.out.turn HJ2.out hown3 (mY.weaken (fun k _ e => .inl (e ▸ HOl2.out))) hown (fun k hk => .inl hk)
        have hpf : f2 pre2 ++ [x + c] <+: MM := by
          have h1 := map_prefix (f := fun c : Int => x + c) HP2.out
          rw [← HF.out, List.map_append] at h1
          have h2 := flat_prefix (f := dayL true H M TD hh mm) HP1.out h1
          rw [HMM.out]
          simpa [f2, f, List.append_assoc] using h2
        obtain ⟨fn, tmps, assign, body, hy, hR⟩ := (HY.out (fun k => O2 k ∨ Q2 k) (f2 pre2) (x + c) Y3 hown hJ3 hpf).deep (l0 := l2) (m' := nn - 1 - 1 - 1 - 1 - 1)
        have HR := Lib.hid hR
        have HPf := Lib.hid hpf
        have HMY := Lib.hid mV6
        clear hR hpf mV6 hJ3 hown hown3 hO2V mY zM2 hl2
        gi_wp2_with fail
        refine HR.out.mono ?_
        rintro e Y4 ⟨hcase, hM4⟩
        have mV4 : Moved (fun k => ¬ K2 k) V6 Y4 := HMY.out.trans hM4 (fun k _ hk hn => by
          rcases hKC.out k hn with h9 | h9
          · exact hk.1 (.inr h9)
          · exact hk.2 h9)
        have mR : Moved (fun k => ¬ O2 k ∧ ¬ (k = X3.heap.size + 1 ∨ k = X3.heap.size + 1 + 1 ∨ k = X3.heap.size + 1 + 2 ∨ k = 1)) Y3 Y4 := hM4.weaken (fun k _ hk => ⟨fun h9 => hk.1 (.inl h9), fun h9 => by
          rcases h9 with rfl | rfl | rfl | rfl
          · exact hk.1 (.inr (.inr (.inr ⟨by omega, by omega⟩)))
          · exact hk.1 (.inr (.inr (.inr ⟨by omega, by omega⟩)))
          · exact hk.1 (.inr (.inr (.inr ⟨by omega, by omega⟩)))
          · exact hk.2 (.inr (.inr (.inr (.inl rfl))))⟩)
        have HMR := Lib.hid mR
        have HMV4 := Lib.hid mV4
        have HM4 := Lib.hid hM4
        have hfs : f2 pre2 ++ [x + c] = f2 (pre2 ++ [c]) := by simp [f2, List.append_assoc]
        have HFs := Lib.hid hfs
        clear hM4 mV4 mR hfs
        rcases hcase with ⟨rfl, hJ4⟩ | ⟨rfl, hJx4⟩
        · have HJ4 := Lib.hid hJ4
          clear hJ4
          gi_wp2_with fail
          exact ⟨HMR.out, HFs.out ▸ HJ4.out, HMV4.out⟩
        · have HJ4 := Lib.hid hJx4
          clear hJx4
          gi_wp2_with fail
          exact ⟨HMR.out, rfl, ⟨_, HPf.out, HJ4.out⟩, HMV4.out⟩
      case hdone2 =>
        rintro O2 Y hO2 ⟨hJ2, hM2⟩
        have zM2 := hM2.size
        have hfs : f2 (clockL true H M (startH true) (startM true)) = f (pre ++ [x]) := by simp only [f2, f, List.flatMap_append, List.flatMap_cons, List.flatMap_nil, List.append_nil, HF.out]
        have hown3 : OwnO W.heap.size (fun k => O2 k ∨ Q2 k) Y := fun k hk => by
          rcases hk with hk | hk
          · have := hO2 k hk; omega
          · have := HQ2.out k hk; omega
        have hJ5 : J (fun k => O1 k ∨ Q k) (f (pre ++ [x])) Y := HJ.out.turn (hfs ▸ hJ2) hown3 (Moved.refl _ _) (fun k hk => by
          rcases hk with hk | hk
          · have := HO1.out k hk; omega
          · have := HQ.out k hk; omega) (fun k hk => by
          rcases hk with hk | hk
          · exact .inl (.inr (.inl hk))
          · exact .inl (.inr (.inr (.inl hk))))
        have m3Y : Moved (fun k => ¬ K2 k) X3 Y := (HM36.out.weaken (q := fun k => ¬ K2 k) (fun _ _ h => h.elim)).trans hM2 (fun _ _ h => h)
        have HM3Y := Lib.hid m3Y
        have HJ5 := Lib.hid hJ5
        clear hJ2 hM2 hJ5 m3Y hown3 hfs
        gi_wp2_with fail
        refine ⟨HM3Y.out.weaken (fun k _ hk => ⟨fun h9 => hk (.inr (.inl h9)), fun h9 => hk (.inl ?_)⟩), HJ5.out, HMV.out.trans HM3Y.out (fun k _ h9 hn => h9 (.inl hn))⟩
        rcases h9 with rfl | rfl | rfl | rfl | rfl
        · exact .inr ⟨by omega, by omega⟩
        · exact .inr ⟨by omega, by omega⟩
        · exact .inr ⟨by omega, by omega⟩
        · exact .inl (.inr (.inr (.inr (.inl rfl))))
        · exact .inl (.inr (.inr (.inr (.inr rfl))))
      case hstop2 =>
        rintro c O2 pre2 Y hO2 hpre2 ⟨rfl, ⟨q, hq, hx⟩, hM2⟩
        have zM2 := hM2.size
        have hown3 : OwnO W.heap.size (fun k => O2 k ∨ Q2 k) Y := fun k hk => by
          rcases hk with hk | hk
          · have := hO2 k hk; omega
          · have := HQ2.out k hk; omega
        have hJ5 : Jx (fun k => O1 k ∨ Q k) q Y := HJx.out.turn hx hown3 (Moved.refl _ _) (fun k hk => by
          rcases hk with hk | hk
          · have := HO1.out k hk; omega
          · have := HQ.out k hk; omega) (fun k hk => by
          rcases hk with hk | hk
          · exact .inl (.inr (.inl hk))
          · exact .inl (.inr (.inr (.inl hk))))
        have m3Y : Moved (fun k => ¬ K2 k) X3 Y := (HM36.out.weaken (q := fun k => ¬ K2 k) (fun _ _ h => h.elim)).trans hM2 (fun _ _ h => h)
        have HM3Y := Lib.hid m3Y
        have HJ5 := Lib.hid hJ5
        have HQq := Lib.hid hq
        clear hx hM2 hJ5 m3Y hown3 hq
        gi_wp2_with fail
        refine ⟨HM3Y.out.weaken (fun k _ hk => ⟨fun h9 => hk (.inr (.inl h9)), fun h9 => hk (.inl ?_)⟩), rfl, ⟨_, HQq.out, HJ5.out⟩, HMV.out.trans HM3Y.out (fun k _ h9 hn => h9 (.inl hn))⟩
        rcases h9 with rfl | rfl | rfl | rfl | rfl
        · exact .inr ⟨by omega, by omega⟩
        · exact .inr ⟨by omega, by omega⟩
        · exact .inr ⟨by omega, by omega⟩
        · exact .inl (.inr (.inr (.inr (.inl rfl))))
        · exact .inl (.inr (.inr (.inr (.inr rfl))))
  case hdone =>
    rintro D O Wd hD hOD hO ⟨hJd, hMd⟩ hK9
    have zd := hMd.size
    have zV := HZ.out
    have hown3 : OwnO W.heap.size (fun k => O k ∨ Q k) Wd := fun k hk => by
      rcases hk with hk | hk
      · have := hO k hk; omega
      · have := HQ.out k hk; omega
    have hJe : J (fun k => O k ∨ Q k) MM (Wd.putObj D (.deferred none)) := HJ.out.turn (show J (fun k => O k ∨ Q k) MM Wd by rw [HMM.out]; exact hJd) hown3 (moved_putObjO _ _ (.inl hOD)) (fun k hk => by have := hown3 k hk; simpa [World.putObj] using this) (fun k hk => .inl hk)
    have hown4 : OwnO W.heap.size (fun k => O k ∨ Q k) (Wd.putObj D (.deferred none)) := fun k hk => by have := hown3 k hk; simpa [World.putObj] using this
    have HKd := Lib.hid hK9
    have HJe := Lib.hid hJe
    have HO4 := Lib.hid hown4
    clear hJd hMd hJe hown3 hown4 hK9 hO
    gi_wp2_with fail
    refine ⟨by simp, .inl ⟨_, _, rfl, run_takeDeferred HKd.out, ?_⟩⟩
    exact ⟨_, results_none rfl _ _ _, ⟨_, rfl⟩, .inl ⟨_, HO4.out, HJe.out⟩⟩
  case hstop =>
    rintro D c O pre Wd hD hOD hO hpre ⟨rfl, ⟨q, hq, hx⟩, hMd⟩ hK9
    have zd := hMd.size
    have zV := HZ.out
    have hown3 : OwnO W.heap.size (fun k => O k ∨ Q k) Wd := fun k hk => by
      rcases hk with hk | hk
      · have := hO k hk; omega
      · have := HQ.out k hk; omega
    have hJe : Jx (fun k => O k ∨ Q k) q (Wd.putObj D (.deferred none)) := HJx.out.turn hx hown3 (moved_putObjO _ _ (.inl hOD)) (fun k hk => by have := hown3 k hk; simpa [World.putObj] using this) (fun k hk => .inl hk)
    have hown4 : OwnO W.heap.size (fun k => O k ∨ Q k) (Wd.putObj D (.deferred none)) := fun k hk => by have := hown3 k hk; simpa [World.putObj] using this
    have HKd := Lib.hid hK9
    have HJe := Lib.hid hJe
    have HO4 := Lib.hid hown4
    have HQq := Lib.hid hq
    clear hx hMd hJe hown3 hown4 hK9 hO hq
    gi_wp2_with fail
    refine ⟨by simp, .inl ⟨_, _, rfl, run_takeDeferred HKd.out, ?_⟩⟩
    exact ⟨_, results_none rfl _ _ _, ⟨_, rfl⟩, .inr ⟨_, _, HO4.out, HQq.out, HJe.out⟩⟩

set_option maxRecDepth 100000 in
set_option maxHeartbeats 4000000 in
theorem momNo_fw (nn : Nat) (hnn : 30 ≤ nn) (t : Int) (h : t < -62135596800 ∨ 253402300799 < t) (C : Nat → Prop) (pt pw ps : Nat) (w : World) (hpt : w.heap[pt]? = some (.cells #[.int .i64 t] 3 (0, 0))) :
    SeqO Fence.wide nn Tryd.prog 47 #[ptrV pt, ptrV pw, ptrV ps] (fun x : Int => #[.int .i64 x]) C [] w := fun l J Jx W hWb hJ hJx hY h0 => by
  refine callsIn_of_wp_marks Tryd.func47 rfl trivial ?_ rfl
  simp only [Tryd.ntmps47, List.size_toArray, List.length_cons, List.length_nil, Nat.reduceAdd, Nat.reduceSub, Array.replicate_succ, Array.replicate_zero, List.push_toArray, List.append_toArray, List.nil_append, List.cons_append]
  have kpt := (hWb.block _ (heap_lt hpt)).trans hpt
  have c0 : ∀ o, (W.alloc o).cell? ⟨pt, 0, none⟩ = some (.int .i64 t) := fun o => cell_of_row _ _ 0 _ _ _ (heap_old o (heap_lt kpt) kpt)
  have HOf := Lib.hid (fun V => of_no t V h)
  have hnn1 : 1 ≤ nn := by omega
  have HJ := Lib.hid hJ
  have H0 := Lib.hid h0
  clear h hpt hWb hJ hJx hY h0
  gi_wp2_with (refine ⟨trivial, ?_⟩; gi_at_call 25; refine (callsIn_wide.2 (HOf.out _)).mono ?_; rintro e w1 ⟨rfl, hb1⟩; have HB1 := Lib.hid ((below_alloc W _).trans (hb1.mono (by simp))); clear hb1)
  refine ⟨_, results_none rfl _ _ _, ⟨_, rfl⟩, .inl ⟨fun _ => False, fun _ h => h.elim, ?_⟩⟩
  exact HJ.out.turn H0.out (fun _ h => h.elim) (Below.movedNew (HB1.out.alloc HB1.out.size _)) (fun _ h => h.elim) (fun _ h => h.elim)

set_option maxRecDepth 100000 in
set_option maxHeartbeats 4000000 in
theorem mom_bw (nn : Nat) (hnn : 30 ≤ nn) (s : Sp) (hs : SpOk s) (M H : Nat) (hM : s.mi = M) (hH : s.ho = H) (t n y : Int) (k dd hh mm : Nat) (sec : Int) (hAt : At t n y k sec) (hdd : n + 719162 - ah y - cum y k + 1 = dd) (hhh : sec / 3600 = hh) (hmm : sec % 3600 / 60 = mm) (pt pw ps : Nat) (w : World)
    (hpt : w.heap[pt]? = some (.cells #[.int .i64 t] 3 (0, 0))) (hpw : w.heap[pw]? = some (.cells bwC 45 (0, 0))) (hps : w.heap[ps]? = some (.cells (specC s.mi s.ho s.da s.mo s.we s.ad s.aw) 24 (0, 0))) (hT : TzTab w) (ht : Tab w)
    (hg : 1 < w.heap.size) (hg2 : 2 < w.heap.size) :
    SeqO Fence.wide nn Tryd.prog 47 #[ptrV pt, ptrV pw, ptrV ps] (fun x : Int => #[.int .i64 x])
      (fun k => k = pw ∨ k = ps ∨ k = pt ∨ k = 1 ∨ k = 2) (momL false s H M (y * 12 + ((k : Int) + 1) - 1) dd (fl t 86400) hh mm) w := fun l J Jx W hWb hJ hJx hY h0 => by
  obtain ⟨f0, hf0⟩ : ∃ f0, f0 = fuel0 false (y * 12 + ((k : Int) + 1) - 1) := ⟨_, rfl⟩
  have hk := hAt.k1
  have hy0 := hAt.y0
  have hy1 := hAt.y1
  have hFu : Fuel false f0 (y * 12 + ((k : Int) + 1) - 1) := hf0 ▸ fuel_ok _ _ (by omega) (by omega)
  have hdd62 : dd ≤ 62 := by have := at_date hAt; omega
  have hhd := at_date hAt
  have hh62 : hh ≤ 62 := by omega
  have hm62 : mm ≤ 62 := by omega
  obtain ⟨LL, hLL⟩ : ∃ LL, LL = midL false s f0 (y * 12 + ((k : Int) + 1) - 1) (since false (mdays s (y * 12 + ((k : Int) + 1) - 1)) dd) 0 := ⟨_, rfl⟩
  have hmom : momL false s H M (y * 12 + ((k : Int) + 1) - 1) dd (fl t 86400) hh mm = LL.flatMap (dayL false H M (fl t 86400) hh mm) := by rw [hLL, hf0]; rfl
  rw [hmom] at hY ⊢
  have hbd : ∀ x ∈ LL, -62135596800 ≤ x ∧ x ≤ 253402214400 := fun x hx => midL_bd (since_in (mdays_in _ _)) (hLL ▸ hx)
  have hfl : fl t 86400 = 86400 * n := by have h1 := hAt.day; have h2 := hAt.s0; have h3 := hAt.s1; have h4 := hAt.lo; have h5 := hAt.hi; unfold fl; rw [if_neg (by omega), if_neg (by omega)]; omega
  have hOf := fun V hV => of_at t n y k sec V hV hAt
  simp only [hdd, hhh, hmm] at hOf
  have hFl := fun V => floor_any t 86400 V (by have := hAt.lo; omega) (by have := hAt.hi; omega) (by omega)
  obtain ⟨TD, hTD⟩ : ∃ TD, TD = fl t 86400 := ⟨_, rfl⟩
  rw [← hTD] at hFl hY hfl ⊢
  obtain ⟨MM, hMM⟩ : ∃ MM, MM = LL.flatMap (dayL false H M TD hh mm) := ⟨_, rfl⟩
  rw [← hMM] at hY ⊢
  have HMM := Lib.hid hMM
  clear hMM
  have hn1 : -719162 ≤ n ∧ n ≤ 2932896 := by have := hAt.day; have := hAt.s0; have := hAt.s1; have := hAt.lo; have := hAt.hi; omega
  have hM64 : M < 18446744073709551616 := by have h1 := hs.mi.2; rw [hM] at h1; omega
  have hH64 : H < 18446744073709551616 := by have h1 := hs.ho.2; rw [hH] at h1; omega
  have htb : -62135596800 ≤ t ∧ t ≤ 253402300799 := ⟨hAt.lo, hAt.hi⟩
  refine callsIn_of_wp_marks Tryd.func47 rfl trivial ?_ rfl
  simp only [Tryd.ntmps47, List.size_toArray, List.length_cons, List.length_nil, Nat.reduceAdd, Nat.reduceSub, Array.replicate_succ, Array.replicate_zero, List.push_toArray, List.append_toArray, List.nil_append, List.cons_append]
  have hbW : ∀ {k : Nat} {o : Obj}, w.heap[k]? = some o → W.heap[k]? = some o := fun h => (hWb.block _ (heap_lt h)).trans h
  have kpw := hbW hpw
  have kps := hbW hps
  have kpt := hbW hpt
  have HTz : Hid (∀ V, Below W.heap.size W V → TzTab V) := Lib.hid (fun V hV => (hT.later hWb).later hV)
  have HTb : Hid (∀ V, Below W.heap.size W V → Tab V) := Lib.hid (fun V hV => (ht.later hWb).later hV)
  have hgW : 1 < W.heap.size := Nat.lt_of_lt_of_le hg hWb.size
  have hg2W : 2 < W.heap.size := Nat.lt_of_lt_of_le hg2 hWb.size
  have lpw := heap_lt kpw
  have lps := heap_lt kps
  have lpt := heap_lt kpt
  have HKw : Hid (∀ V, Below W.heap.size W V → V.heap[pw]? = some (.cells bwC 45 (0, 0))) := Lib.hid (fun V hV => (hV.block _ lpw).trans kpw)
  have HKs : Hid (∀ V, Below W.heap.size W V → V.heap[ps]? = some (.cells (specC s.mi s.ho s.da s.mo s.we s.ad s.aw) 24 (0, 0))) := Lib.hid (fun V hV => (hV.block _ lps).trans kps)
  have HKt : Hid (∀ V, Below W.heap.size W V → V.heap[pt]? = some (.cells #[.int .i64 t] 3 (0, 0))) := Lib.hid (fun V hV => (hV.block _ lpt).trans kpt)
  have HOf := Lib.hid hOf
  have HFl := Lib.hid hFl
  have HBd := Lib.hid hbd
  have HFu := Lib.hid hFu
  have HLL := Lib.hid hLL
  have HTD := Lib.hid hfl
  clear hpw hps hpt hT ht hg hg2 hbW hOf hFl hbd hFu hLL hTD hfl hmom hAt hhd kpw kps
  have c0 : ∀ o, (W.alloc o).cell? ⟨pt, 0, none⟩ = some (.int .i64 t) := fun o => cell_of_row _ _ 0 _ _ _ (heap_old o lpt kpt)
  clear kpt
  have hnn1 : 1 ≤ nn := by omega
  have HM := Lib.hid hM
  have HH := Lib.hid hH
  clear hM hH
  gi_wp2_with (refine ⟨trivial, ?_⟩; gi_at_call 25; refine (callsIn_wide.2 (HOf.out _ (HTb.out _ (below_alloc W _)))).mono ?_; rintro e w1 ⟨rfl, hb1⟩; have HB1 := Lib.hid ((below_alloc W _).trans (hb1.mono (by simp))); have z1 := hb1.size; rw [World.size_alloc] at z1; have y1 := (hb1.block _ (by rw [World.size_alloc]; omega)).trans (heap_new W _); have HY1 := Lib.hid y1; clear hb1 y1 c0; have d0 : ∀ o, (w1.alloc o).cell? ⟨pt, 0, none⟩ = some (.int .i64 t) := fun o => cell_of_row _ _ 0 _ _ _ (HKt.out _ (HB1.out.alloc HB1.out.size o)))
  refine ⟨trivial, ?_⟩
  gi_at_call 23
  refine (callsIn_wide.2 (HFl.out _)).mono ?_
  rintro e V1 ⟨rfl, hV1⟩
  have hB1 : Below W.heap.size W V1 := hV1 ▸ HB1.out.alloc HB1.out.size _
  have zV1 : V1.heap.size = w1.heap.size + 1 := by rw [← hV1]; simp
  have v1d : V1.heap[w1.heap.size]? = some (.cells (dateC y ((k : Int) + 1) dd hh mm (sec % 60) (wd n)) 43 (0, 0)) := by rw [← hV1]; exact heap_new _ _
  have v1y : V1.heap[W.heap.size]? = some (.cells #[.func (.yield l) #[] #[]] 66 (0, 0)) := by rw [← hV1]; exact heap_old _ (by omega) HY1.out
  clear hV1 d0
  have e1 : ∀ o, (∀ i, (V1.alloc o).cell? ⟨pw, i, none⟩ = (bwC)[i]?) := fun o => (cells_of_heap (HKw.out _ (hB1.alloc hB1.size o))).1
  have e2 : ∀ o, (∀ i, (V1.alloc o).cell? ⟨ps, i, none⟩ = (specC s.mi s.ho s.da s.mo s.we s.ad s.aw)[i]?) := fun o => (cells_of_heap (HKs.out _ (hB1.alloc hB1.size o))).1
  have e3 : ∀ o, (∀ i, (V1.alloc o).cell? ⟨w1.heap.size, i, none⟩ = (dateC y ((k : Int) + 1) dd hh mm (sec % 60) (wd n))[i]?) := fun o => (cells_of_heap (heap_old o (heap_lt v1d) v1d)).1
  have HB1' := Lib.hid hB1
  have HV1d := Lib.hid v1d
  have HV1y := Lib.hid v1y
  have HZ1 := Lib.hid zV1
  clear hB1 v1d v1y zV1
  gi_wp2_with fail
  refine ⟨trivial, ?_⟩
  gi_at_call 48
  refine (callsIn_wide.2 (midMk_bw s.mi s.ho s.da s.mo s.we s.ad s.aw y ((k : Int) + 1) dd hh mm (sec % 60) (wd n) _)).mono ?_
  rintro e V ⟨rfl, hV⟩
  have hBV : Below W.heap.size W V := by rw [hV]; exact ((((HB1'.out.alloc HB1'.out.size _).alloc (by simp; have := HB1'.out.size; omega) _).alloc (by simp; have := HB1'.out.size; omega) _).alloc (by simp; have := HB1'.out.size; omega) _)
  have zV : V.heap.size = V1.heap.size + 4 := by rw [hV]; simp
  have bV : Below V1.heap.size V1 V := by rw [hV]; exact ((((below_alloc V1 _).alloc (by simp) _).alloc (by simp; omega) _).alloc (by simp; omega) _)
  have vy := (bV.block _ (heap_lt HV1y.out)).trans HV1y.out
  have vd := (bV.block _ (heap_lt HV1d.out)).trans HV1d.out
  have vt : V.heap[V1.heap.size]? = some (.cells #[.int .i64 TD] 3 (0, 0)) := by
    rw [hV]; exact heap_old _ (by simp; omega) (heap_old _ (by simp; omega) (heap_old _ (by simp) (heap_new V1 _)))
  have vw : V.heap[V1.heap.size + 1]? = some (.cells bwC 45 (0, 0)) := by
    rw [hV]
    have h8 := heap_new (V1.alloc (.cells #[.int .i64 TD] 3)) (.cells bwC 45)
    rw [World.size_alloc] at h8
    exact heap_old _ (by simp) (heap_old _ (by simp) h8)
  have vs : V.heap[V1.heap.size + 2]? = some (.cells (specC s.mi s.ho s.da s.mo s.we s.ad s.aw) 24 (0, 0)) := by
    rw [hV]
    have h8 := heap_new ((V1.alloc (.cells #[.int .i64 TD] 3)).alloc (.cells bwC 45)) (.cells (specC s.mi s.ho s.da s.mo s.we s.ad s.aw) 24)
    rw [World.size_alloc, World.size_alloc] at h8
    exact heap_old _ (by simp) h8
  have vdd : V.heap[V1.heap.size + 3]? = some (.cells (dateC y ((k : Int) + 1) dd hh mm (sec % 60) (wd n)) 43 (0, 0)) := by
    rw [hV]
    have h8 := heap_new (((V1.alloc (.cells #[.int .i64 TD] 3)).alloc (.cells bwC 45)).alloc (.cells (specC s.mi s.ho s.da s.mo s.we s.ad s.aw) 24)) (.cells (dateC y ((k : Int) + 1) dd hh mm (sec % 60) (wd n)) 43)
    rw [World.size_alloc, World.size_alloc, World.size_alloc] at h8
    exact h8
  clear hV e1 e2 e3
  have zB1 := HB1'.out.size
  have zV1 := HZ1.out
  let C : Nat → Prop := fun k => k = pw ∨ k = ps ∨ k = pt ∨ k = 1 ∨ k = 2
  let Q : Nat → Prop := fun k => W.heap.size ≤ k ∧ k < V.heap.size
  let K : Nat → Prop := fun k => C k ∨ Q k
  let f : List Int → List Int := fun pre => pre.flatMap (dayL false H M TD hh mm)
  have hQ : ∀ k, Q k → W.heap.size ≤ k ∧ k < V.heap.size := fun k hk => hk
  have hC : ∀ k, C k → k < W.heap.size := fun k hk => by rcases hk with rfl | rfl | rfl | rfl | rfl <;> assumption
  have hK : ∀ k, K k → k < V.heap.size := fun k hk => by
    rcases hk with hk | hk
    · have := hC k hk; omega
    · exact (hQ k hk).2
  have HJ := Lib.hid hJ
  have HJx := Lib.hid hJx
  have HY := Lib.hid hY
  have HQ := Lib.hid hQ
  have HC := Lib.hid hC
  have HK := Lib.hid hK
  have HZ := Lib.hid zV
  have HVY := Lib.hid vy
  have HVT := Lib.hid vt
  have HVD := Lib.hid vd
  have HVW := Lib.hid (HKw.out V hBV)
  have HVS := Lib.hid (HKs.out V hBV)
  have HI1 := Lib.hid (mine_abides (Q := Q) (K := K) (V := V) (f := f) hJ (by omega) hQ hK)
  have HX1 := Lib.hid (fun c => minex_abides (α := Int) (Q := Q) (K := K) (V := V) (M := MM) hJx (by omega) hQ hK c)
  have hI0 : Mine J Q K V f (fun _ => False) [] V := ⟨hJ.turn h0 (fun _ h => h.elim) (Moved.weaken (Below.movedNew (p := fun _ => False) hBV) (fun _ _ h => h.elim)) (fun k hk => by
      rcases hk with hk | hk
      · exact hk.elim
      · exact hQ k hk) (fun k hk => by
      rcases hk with hk | hk
      · exact hk.elim
      · exact .inr hk.1), Moved.refl _ _⟩
  have hseq := mid_bw (nn - 1) (by omega) s hs y ((k : Int) + 1) dd hh mm (sec % 60) (wd n) hy0 hy1 (by omega) (by omega) hdd62 (V1.heap.size + 1 + 2) (V1.heap.size + 1) (V1.heap.size + 1 + 1) V vdd vw vs (HTz.out V hBV) (HTb.out V hBV) (by omega) (by omega) f0 HFu.out
  rw [← HLL.out] at hseq
  clear hJ hJx hY hQ hK hC vy vd vt vw vs vdd zV1
  gi_wp2_with fail
  refine wpIn_rangeFunc_O rfl hnn1 (gf := 65) (lb := #[ptrV (V1.heap.size + 1 + 2), ptrV (V1.heap.size + 1), ptrV (V1.heap.size + 1 + 1)]) rfl trivial (enters_of Tryd.func65 (by kernel_rfl) rfl)
    hseq (Below.refl _ _) (fun k hk => by
      rcases hk with rfl | rfl | rfl | rfl | rfl
      · omega
      · omega
      · omega
      · omega
      · omega) (fun _ => rfl)
    (Mine J Q K V f) (fun c O _ X => MineX Jx Q K V MM c O X) HI1.out HX1.out hI0 ?hround ?hdone ?hstop
  clear hseq hI0 h0
  case hround =>
    intro l1 O1 pre x X hOl hO1 hI hpre
    obtain ⟨hJ1, hM1⟩ := hI
    have hxb := HBd.out x (prefix_mem hpre)
    have HJ1 := Lib.hid hJ1
    have HM1 := Lib.hid hM1
    have HO1 := Lib.hid hO1
    have HOl := Lib.hid hOl
    have HP1 := Lib.hid hpre
    have zX := hM1.size
    have HZX : Hid (V.heap.size ≤ X.heap.size) := Lib.hid zX
    clear hJ1 hM1 hO1 hOl hpre zX
    simp only [List.zip_toArray, List.zip_cons_cons, List.zip_nil_left, List.zip_nil_right, List.size_toArray, List.length_cons, List.length_nil, List.foldl_toArray', List.foldl_cons, List.foldl_nil, List.setIfInBounds_toArray, List.set_cons_succ, List.set_cons_zero]
    gi_wp2_with fail
    refine ⟨(Moved.refl _ X).alloc _, fun r X3 hX3 => ?_⟩
    have hl1X : l1 < X.heap.size := (HO1.out l1 HOl.out).2
    have z3 : X3.heap.size = X.heap.size + 1 := by rw [hX3]; simp [World.putObj]
    have m3 : Moved O1 X X3 := by
      rw [hX3]; exact ((Moved.refl _ X).alloc _).trans (moved_putObjO _ _ HOl.out) (fun _ _ h => h)
    have x5 : X3.heap[X.heap.size]? = some (.cells #[.int .i64 x] 3 (0, 0)) := by
      rw [hX3]; exact (World.putObj_heap_other (by omega)).trans (heap_new X _)
    have xl : X3.heap[l1]? = some (.loop r) := by
      rw [hX3]; exact World.putObj_heap_same (by simp; omega)
    clear hX3 hl1X
    have mV : Moved (fun k => ¬ K k) V X3 := HM1.out.trans m3 (fun k hk ho hn => by have := (HO1.out k ho).1; omega)
    have keep : ∀ {k : Nat} {o : Obj}, K k → V.heap[k]? = some o → X3.heap[k]? = some o := fun hk ho => mV.heap ho (fun hn => hn hk)
    have hTX : TzTab X3 := (HTz.out V hBV).moved mV (fun hn => hn (.inl (.inr (.inr (.inr (.inl rfl))))))
    have HZ3 := Lib.hid z3
    have HM3 := Lib.hid m3
    have HMV := Lib.hid mV
    have HX5 := Lib.hid x5
    have HXl := Lib.hid xl
    have HTX := Lib.hid hTX
    have zX := HZX.out
    have zV := HZ.out
    have kw := Lib.hid (keep (.inl (.inl rfl)) HVW.out)
    have ks := Lib.hid (keep (.inl (.inr (.inl rfl))) HVS.out)
    have kd := Lib.hid (keep (.inr ⟨by omega, heap_lt HVD.out⟩) HVD.out)
    have kt := Lib.hid (keep (.inr ⟨by omega, heap_lt HVT.out⟩) HVT.out)
    have ky := Lib.hid (keep (.inr ⟨Nat.le_refl _, heap_lt HVY.out⟩) HVY.out)
    clear m3 mV hTX keep x5 xl z3
    have w0 := (cells_of_heap kw.out).1
    -- the world behind the box 'from'
    have hB4 : ∀ o, Below X3.heap.size X3 (X3.alloc o) := fun o => below_alloc X3 o
    have g5 : ∀ o, (X3.alloc o).cell? ⟨X.heap.size, 0, none⟩ = some (.int .i64 x) := fun o => cell_of_row _ _ 0 _ _ _ (heap_old o (heap_lt HX5.out) HX5.out)
    have gt : ∀ o, (X3.alloc o).cell? ⟨V1.heap.size, 0, none⟩ = some (.int .i64 TD) := fun o => cell_of_row _ _ 0 _ _ _ (heap_old o (heap_lt kt.out) kt.out)
    have gs : ∀ o, (∀ i, (X3.alloc o).cell? ⟨ps, i, none⟩ = (specC s.mi s.ho s.da s.mo s.we s.ad s.aw)[i]?) := fun o => (cells_of_heap (heap_old o (heap_lt ks.out) ks.out)).1
    have gw : ∀ o, (∀ i, (X3.alloc o).cell? ⟨pw, i, none⟩ = (bwC)[i]?) := fun o => (cells_of_heap (heap_old o (heap_lt kw.out) kw.out)).1
    have gd : ∀ o, (∀ i, (X3.alloc o).cell? ⟨w1.heap.size, i, none⟩ = (dateC y ((k : Int) + 1) dd hh mm (sec % 60) (wd n))[i]?) := fun o => (cells_of_heap (heap_old o (heap_lt kd.out) kd.out)).1
    have hn2 : 1 ≤ nn - 1 - 1 := by omega
    have hn4 : 1 ≤ nn - 1 - 1 - 1 - 1 := by omega
    by_cases hh9 : x = TD
    · have hhb : (x == TD) = true := by simp; omega
      have hf : dayL false H M TD hh mm x = (clockL false H M hh mm).map fun c : Int => x + c := by simp [dayL, hh9]
      have HF := Lib.hid hf
      clear hh9 hf
      gi_wp2_with fail
      refine ⟨trivial, ?_⟩
      gi_at_call 49
      refine (CallsIn.inRound l1 (callsIn_wide.2 (clockMk_bw s.mi s.ho s.da s.mo s.we s.ad s.aw y ((k : Int) + 1) dd hh mm (sec % 60) (wd n) _))).mono ?_
      rintro e V6 ⟨rfl, hV6⟩
      have hB6 : Below X3.heap.size X3 V6 := by rw [hV6]; exact ((((below_alloc X3 _).alloc (by simp) _).alloc (by simp; omega) _).alloc (by simp; omega) _)
      have z6 : V6.heap.size = X3.heap.size + 4 := by rw [hV6]; simp
      have v6w : V6.heap[X3.heap.size + 1]? = some (.cells bwC 45 (0, 0)) := by
        rw [hV6]
        have h8 := heap_new (X3.alloc (.cells (dateC y ((k : Int) + 1) dd hh mm (sec % 60) (wd n)) 43)) (.cells bwC 45)
        rw [World.size_alloc] at h8
        exact heap_old _ (by simp) (heap_old _ (by simp) h8)
      have v6s : V6.heap[X3.heap.size + 1 + 1]? = some (.cells (specC s.mi s.ho s.da s.mo s.we s.ad s.aw) 24 (0, 0)) := by
        rw [hV6]
        have h8 := heap_new ((X3.alloc (.cells (dateC y ((k : Int) + 1) dd hh mm (sec % 60) (wd n)) 43)).alloc (.cells bwC 45)) (.cells (specC s.mi s.ho s.da s.mo s.we s.ad s.aw) 24)
        rw [World.size_alloc, World.size_alloc] at h8
        exact heap_old _ (by simp) h8
      have v6d : V6.heap[X3.heap.size + 1 + 2]? = some (.cells (dateC y ((k : Int) + 1) dd hh mm (sec % 60) (wd n)) 43 (0, 0)) := by
        rw [hV6]
        have h8 := heap_new (((X3.alloc (.cells (dateC y ((k : Int) + 1) dd hh mm (sec % 60) (wd n)) 43)).alloc (.cells bwC 45)).alloc (.cells (specC s.mi s.ho s.da s.mo s.we s.ad s.aw) 24)) (.cells (dateC y ((k : Int) + 1) dd hh mm (sec % 60) (wd n)) 43)
        rw [World.size_alloc, World.size_alloc, World.size_alloc] at h8
        exact h8
      clear hV6 g5 gt gs gw gd hB4
      have z3 := HZ3.out
      have zX := HZX.out
      have zV := HZ.out
      let Q2 : Nat → Prop := fun k => O1 k ∨ Q k ∨ (X.heap.size ≤ k ∧ k < V6.heap.size)
      let K2 : Nat → Prop := fun k => K k ∨ Q2 k
      let f2 : List Int → List Int := fun pre2 => f pre ++ pre2.map fun c : Int => x + c
      have hQ2 : ∀ k, Q2 k → W.heap.size ≤ k ∧ k < V6.heap.size := fun k hk => by
        rcases hk with hk | hk | hk
        · have := HO1.out k hk; omega
        · have := HQ.out k hk; omega
        · omega
      have hK2 : ∀ k, K2 k → k < V6.heap.size := fun k hk => by
        rcases hk with hk | hk
        · have := HK.out k hk; omega
        · exact (hQ2 k hk).2
      have m36 : Moved (fun _ => False) X3 V6 := Below.movedNew hB6
      have hI20 : Mine J Q2 K2 V6 f2 (fun _ => False) [] V6 := by
        refine ⟨?_, Moved.refl _ _⟩
        have h9 := HJ1.out
        simp only [f2, List.map_nil, List.append_nil]
        refine HJ.out.turn h9 (fun k hk => ?_) ((HM3.out.trans m36 (fun _ _ h => h.elim)).weaken (fun k _ h => .inl h)) (fun k hk => ?_) (fun k hk => ?_)
        · rcases hk with hk | hk
          · have := HO1.out k hk; omega
          · have := HQ.out k hk; omega
        · rcases hk with hk | hk
          · exact hk.elim
          · exact hQ2 k hk
        · rcases hk with hk | hk | hk | hk
          · exact hk.elim
          · exact .inl (.inl hk)
          · exact .inl (.inr hk)
          · exact .inr hk.1
      have HI2 := Lib.hid (mine_abides (Q := Q2) (K := K2) (V := V6) (f := f2) HJ.out (by omega) hQ2 hK2)
      have HX2 := Lib.hid (fun c => minex_abides (α := Int) (Q := Q2) (K := K2) (V := V6) (M := MM) HJx.out (by omega) hQ2 hK2 c)
      have HQ2 := Lib.hid hQ2
      have HK2 := Lib.hid hK2
      have HM36 := Lib.hid m36
      have HY6 : Hid (V6.heap[W.heap.size]? = some (.cells #[.func (.yield l) #[] #[]] 66 (0, 0))) := Lib.hid (m36.heap (HMV.out.heap HVY.out (fun hn => hn (.inr ⟨Nat.le_refl _, by omega⟩))) (fun h => h))
      have HX56 : Hid (V6.heap[X.heap.size]? = some (.cells #[.int .i64 x] 3 (0, 0))) := Lib.hid (m36.heap HX5.out (fun h => h))
      have hT6 : TzTab V6 := HTX.out.moved m36 (fun h => h)
      have hl6 : V6.heap[l1]? = some (.loop r) := m36.heap HXl.out (fun h => h)
      have hKm : Hid (∀ k, K2 k → O1 k ∨ K k ∨ (X.heap.size ≤ k ∧ k < V6.heap.size)) := Lib.hid (fun k hk => by
        rcases hk with hk | hk | hk | hk
        · exact .inr (.inl hk)
        · exact .inl hk
        · exact .inr (.inl (.inr hk))
        · exact .inr (.inr hk))
      have hKC : Hid (∀ k, K2 k → Q2 k ∨ C k) := Lib.hid (fun k hk => by
        rcases hk with (hk | hk) | hk
        · exact .inr hk
        · exact .inl (.inr (.inl hk))
        · exact .inl hk)
      have hclk := clock_bw (nn - 1 - 1 - 1) (by omega) M H hh mm s.da s.mo s.we s.ad s.aw y ((k : Int) + 1) dd (sec % 60) (wd n) hM64 hH64 hh62 hm62 (X3.heap.size + 1) (X3.heap.size + 1 + 1) (X3.heap.size + 1 + 2) V6 v6w (by have h9 := v6s; rw [HM.out, HH.out] at h9; exact h9) (by have h9 := v6d; exact h9) hT6 (by have := hgW; omega)
      clear hQ2 hK2 m36 v6w v6s v6d
      clear z3
      gi_wp2_with fail
      have z3 := HZ3.out
      refine wpIn_rangeFunc_ON (F := Fence.wide.inRound l1) (l₀ := l1) (r₀ := r) rfl hl6 hn2 (gf := 68) (lb := #[ptrV (X3.heap.size + 1), ptrV (X3.heap.size + 1 + 1), ptrV (X3.heap.size + 1 + 2)]) rfl trivial (enters_of Tryd.func68 (by kernel_rfl) rfl)
        (SeqO.inRound l1 hclk) (Below.refl _ _) (fun k hk => by
          rcases hk with rfl | rfl | rfl | rfl
          · omega
          · omega
          · omega
          · have := HK.out _ (.inl (.inr (.inr (.inr (.inl rfl))))); omega) (fun _ => rfl)
        (Mine J Q2 K2 V6 f2) (fun c O _ Y => MineX Jx Q2 K2 V6 MM c O Y) HI2.out HX2.out hI20 ?hround2 ?hdone2 ?hstop2
      case hround2 =>
        intro l2 O2 pre2 c Y hOl2 hO2 hI hpre2
        obtain ⟨hJ2, hM2⟩ := hI
        have hcb := clockL_bd (prefix_mem hpre2)
        have hc0 := hcb.1
        have hc1 := hcb.2
        clear hcb
        have HO2 := Lib.hid hO2
        have HP2 := Lib.hid hpre2
        have HJ2 := Lib.hid hJ2
        have HM2 := Lib.hid hM2
        have HOl2 := Lib.hid hOl2
        clear hO2 hpre2 hJ2 hM2 hOl2 hT6 hl6 hI20 hclk w0
        simp only [List.zip_toArray, List.zip_cons_cons, List.zip_nil_left, List.zip_nil_right, List.size_toArray, List.length_cons, List.length_nil, List.foldl_toArray', List.foldl_cons, List.foldl_nil, List.setIfInBounds_toArray, List.set_cons_succ, List.set_cons_zero]
        gi_wp2_with fail
        refine ⟨Moved.refl _ Y, fun r2 Y3 hY3 => ?_⟩
        have mY : Moved (fun k => k = l2) Y Y3 := by rw [hY3]; exact moved_putObjO _ _ rfl
        clear hY3
        have hl2 := HO2.out _ HOl2.out
        have zM2 := HM2.out.size
        have hO2V : ∀ k, O2 k → V6.heap.size ≤ k := fun k hk => (HO2.out k hk).1
        have mV6 : Moved (fun k => ¬ K2 k) V6 Y3 := HM2.out.trans mY (fun k hk e hn => by have := HK2.out k hn; omega)
        have hY9 := cell_of_row Y3 W.heap.size 0 _ _ _ (mV6.heap HY6.out (fun hn => hn (.inr (.inr (.inl ⟨Nat.le_refl _, by omega⟩)))))
        have hY5 := cell_of_row Y3 X.heap.size 0 _ _ _ (mV6.heap HX56.out (fun hn => hn (.inr (.inr (.inr ⟨Nat.le_refl _, by omega⟩)))))
        have hown3 : OwnO W.heap.size (fun k => O2 k ∨ Q2 k) Y := fun k hk => by
          rcases hk with hk | hk
          · have := HO2.out k hk; omega
          · have := HQ2.out k hk; omega
        have hown : OwnO W.heap.size (fun k => O2 k ∨ Q2 k) Y3 := fun k hk => by have := hown3 k hk; have := mY.size; omega
        have hJ3 : J (fun k => O2 k ∨ Q2 k) (f2 pre2) Y3 := HJ.out.turn HJ2.out hown3 (mY.weaken (fun k _ e => .inl (e ▸ HOl2.out))) hown (fun k hk => .inl hk)
        have hpf : f2 pre2 ++ [x + c] <+: MM := by
          have h1 := map_prefix (f := fun c : Int => x + c) HP2.out
          rw [← HF.out, List.map_append] at h1
          have h2 := flat_prefix (f := dayL false H M TD hh mm) HP1.out h1
          rw [HMM.out]
          simpa [f2, f, List.append_assoc] using h2
        obtain ⟨fn, tmps, assign, body, hy, hR⟩ := (HY.out (fun k => O2 k ∨ Q2 k) (f2 pre2) (x + c) Y3 hown hJ3 hpf).deep (l0 := l2) (m' := nn - 1 - 1 - 1 - 1 - 1)
        have HR := Lib.hid hR
        have HPf := Lib.hid hpf
        have HMY := Lib.hid mV6
        clear hR hpf mV6 hJ3 hown hown3 hO2V mY zM2 hl2
        gi_wp2_with fail
        refine HR.out.mono ?_
        rintro e Y4 ⟨hcase, hM4⟩
        have mV4 : Moved (fun k => ¬ K2 k) V6 Y4 := HMY.out.trans hM4 (fun k _ hk hn => by
          rcases hKC.out k hn with h9 | h9
          · exact hk.1 (.inr h9)
          · exact hk.2 h9)
        have mR : Moved (fun k => ¬ O2 k ∧ ¬ (k = X3.heap.size + 1 ∨ k = X3.heap.size + 1 + 1 ∨ k = X3.heap.size + 1 + 2 ∨ k = 1)) Y3 Y4 := hM4.weaken (fun k _ hk => ⟨fun h9 => hk.1 (.inl h9), fun h9 => by
          rcases h9 with rfl | rfl | rfl | rfl
          · exact hk.1 (.inr (.inr (.inr ⟨by omega, by omega⟩)))
          · exact hk.1 (.inr (.inr (.inr ⟨by omega, by omega⟩)))
          · exact hk.1 (.inr (.inr (.inr ⟨by omega, by omega⟩)))
          · exact hk.2 (.inr (.inr (.inr (.inl rfl))))⟩)
        have HMR := Lib.hid mR
        have HMV4 := Lib.hid mV4
        have HM4 := Lib.hid hM4
        have hfs : f2 pre2 ++ [x + c] = f2 (pre2 ++ [c]) := by simp [f2, List.append_assoc]
        have HFs := Lib.hid hfs
        clear hM4 mV4 mR hfs
        rcases hcase with ⟨rfl, hJ4⟩ | ⟨rfl, hJx4⟩
        · have HJ4 := Lib.hid hJ4
          clear hJ4
          gi_wp2_with fail
          exact ⟨HMR.out, HFs.out ▸ HJ4.out, HMV4.out⟩
        · have HJ4 := Lib.hid hJx4
          clear hJx4
          gi_wp2_with fail
          exact ⟨HMR.out, rfl, ⟨_, HPf.out, HJ4.out⟩, HMV4.out⟩
      case hdone2 =>
        rintro O2 Y hO2 ⟨hJ2, hM2⟩
        have zM2 := hM2.size
        have hfs : f2 (clockL false H M hh mm) = f (pre ++ [x]) := by simp only [f2, f, List.flatMap_append, List.flatMap_cons, List.flatMap_nil, List.append_nil, HF.out]
        have hown3 : OwnO W.heap.size (fun k => O2 k ∨ Q2 k) Y := fun k hk => by
          rcases hk with hk | hk
          · have := hO2 k hk; omega
          · have := HQ2.out k hk; omega
        have hJ5 : J (fun k => O1 k ∨ Q k) (f (pre ++ [x])) Y := HJ.out.turn (hfs ▸ hJ2) hown3 (Moved.refl _ _) (fun k hk => by
          rcases hk with hk | hk
          · have := HO1.out k hk; omega
          · have := HQ.out k hk; omega) (fun k hk => by
          rcases hk with hk | hk
          · exact .inl (.inr (.inl hk))
          · exact .inl (.inr (.inr (.inl hk))))
        have m3Y : Moved (fun k => ¬ K2 k) X3 Y := (HM36.out.weaken (q := fun k => ¬ K2 k) (fun _ _ h => h.elim)).trans hM2 (fun _ _ h => h)
        have HM3Y := Lib.hid m3Y
        have HJ5 := Lib.hid hJ5
        clear hJ2 hM2 hJ5 m3Y hown3 hfs
        gi_wp2_with fail
        refine ⟨HM3Y.out.weaken (fun k _ hk => ⟨fun h9 => hk (.inr (.inl h9)), fun h9 => hk (.inl ?_)⟩), HJ5.out, HMV.out.trans HM3Y.out (fun k _ h9 hn => h9 (.inl hn))⟩
        rcases h9 with rfl | rfl | rfl | rfl | rfl
        · exact .inr ⟨by omega, by omega⟩
        · exact .inr ⟨by omega, by omega⟩
        · exact .inr ⟨by omega, by omega⟩
        · exact .inl (.inr (.inr (.inr (.inl rfl))))
        · exact .inl (.inr (.inr (.inr (.inr rfl))))
      case hstop2 =>
        rintro c O2 pre2 Y hO2 hpre2 ⟨rfl, ⟨q, hq, hx⟩, hM2⟩
        have zM2 := hM2.size
        have hown3 : OwnO W.heap.size (fun k => O2 k ∨ Q2 k) Y := fun k hk => by
          rcases hk with hk | hk
          · have := hO2 k hk; omega
          · have := HQ2.out k hk; omega
        have hJ5 : Jx (fun k => O1 k ∨ Q k) q Y := HJx.out.turn hx hown3 (Moved.refl _ _) (fun k hk => by
          rcases hk with hk | hk
          · have := HO1.out k hk; omega
          · have := HQ.out k hk; omega) (fun k hk => by
          rcases hk with hk | hk
          · exact .inl (.inr (.inl hk))
          · exact .inl (.inr (.inr (.inl hk))))
        have m3Y : Moved (fun k => ¬ K2 k) X3 Y := (HM36.out.weaken (q := fun k => ¬ K2 k) (fun _ _ h => h.elim)).trans hM2 (fun _ _ h => h)
        have HM3Y := Lib.hid m3Y
        have HJ5 := Lib.hid hJ5
        have HQq := Lib.hid hq
        clear hx hM2 hJ5 m3Y hown3 hq
        gi_wp2_with fail
        refine ⟨HM3Y.out.weaken (fun k _ hk => ⟨fun h9 => hk (.inr (.inl h9)), fun h9 => hk (.inl ?_)⟩), rfl, ⟨_, HQq.out, HJ5.out⟩, HMV.out.trans HM3Y.out (fun k _ h9 hn => h9 (.inl hn))⟩
        rcases h9 with rfl | rfl | rfl | rfl | rfl
        · exact .inr ⟨by omega, by omega⟩
        · exact .inr ⟨by omega, by omega⟩
        · exact .inr ⟨by omega, by omega⟩
        · exact .inl (.inr (.inr (.inr (.inl rfl))))
        · exact .inl (.inr (.inr (.inr (.inr rfl))))
    · have hhb : (x == TD) = false := by simp; omega
      have hf : dayL false H M TD hh mm x = (clockL false H M (startH false) (startM false)).map fun c : Int => x + c := by simp [dayL, hh9]
      have HF := Lib.hid hf
      clear hh9 hf
      gi_wp2_with fail
      refine ⟨trivial, ?_⟩
      gi_at_call 49
      refine (CallsIn.inRound l1 (callsIn_wide.2 (clockMk_bw s.mi s.ho s.da s.mo s.we s.ad s.aw 0 0 0 23 59 0 0 _))).mono ?_
      rintro e V6 ⟨rfl, hV6⟩
      have hB6 : Below X3.heap.size X3 V6 := by rw [hV6]; exact ((((below_alloc X3 _).alloc (by simp) _).alloc (by simp; omega) _).alloc (by simp; omega) _)
      have z6 : V6.heap.size = X3.heap.size + 4 := by rw [hV6]; simp
      have v6w : V6.heap[X3.heap.size + 1]? = some (.cells bwC 45 (0, 0)) := by
        rw [hV6]
        have h8 := heap_new (X3.alloc (.cells (dateC 0 0 0 23 59 0 0) 43)) (.cells bwC 45)
        rw [World.size_alloc] at h8
        exact heap_old _ (by simp) (heap_old _ (by simp) h8)
      have v6s : V6.heap[X3.heap.size + 1 + 1]? = some (.cells (specC s.mi s.ho s.da s.mo s.we s.ad s.aw) 24 (0, 0)) := by
        rw [hV6]
        have h8 := heap_new ((X3.alloc (.cells (dateC 0 0 0 23 59 0 0) 43)).alloc (.cells bwC 45)) (.cells (specC s.mi s.ho s.da s.mo s.we s.ad s.aw) 24)
        rw [World.size_alloc, World.size_alloc] at h8
        exact heap_old _ (by simp) h8
      have v6d : V6.heap[X3.heap.size + 1 + 2]? = some (.cells (dateC 0 0 0 23 59 0 0) 43 (0, 0)) := by
        rw [hV6]
        have h8 := heap_new (((X3.alloc (.cells (dateC 0 0 0 23 59 0 0) 43)).alloc (.cells bwC 45)).alloc (.cells (specC s.mi s.ho s.da s.mo s.we s.ad s.aw) 24)) (.cells (dateC 0 0 0 23 59 0 0) 43)
        rw [World.size_alloc, World.size_alloc, World.size_alloc] at h8
        exact h8
      clear hV6 g5 gt gs gw gd hB4
      have z3 := HZ3.out
      have zX := HZX.out
      have zV := HZ.out
      let Q2 : Nat → Prop := fun k => O1 k ∨ Q k ∨ (X.heap.size ≤ k ∧ k < V6.heap.size)
      let K2 : Nat → Prop := fun k => K k ∨ Q2 k
      let f2 : List Int → List Int := fun pre2 => f pre ++ pre2.map fun c : Int => x + c
      have hQ2 : ∀ k, Q2 k → W.heap.size ≤ k ∧ k < V6.heap.size := fun k hk => by
        rcases hk with hk | hk | hk
        · have := HO1.out k hk; omega
        · have := HQ.out k hk; omega
        · omega
      have hK2 : ∀ k, K2 k → k < V6.heap.size := fun k hk => by
        rcases hk with hk | hk
        · have := HK.out k hk; omega
        · exact (hQ2 k hk).2
      have m36 : Moved (fun _ => False) X3 V6 := Below.movedNew hB6
      have hI20 : Mine J Q2 K2 V6 f2 (fun _ => False) [] V6 := by
        refine ⟨?_, Moved.refl _ _⟩
        have h9 := HJ1.out
        simp only [f2, List.map_nil, List.append_nil]
        refine HJ.out.turn h9 (fun k hk => ?_) ((HM3.out.trans m36 (fun _ _ h => h.elim)).weaken (fun k _ h => .inl h)) (fun k hk => ?_) (fun k hk => ?_)
        · rcases hk with hk | hk
          · have := HO1.out k hk; omega
          · have := HQ.out k hk; omega
        · rcases hk with hk | hk
          · exact hk.elim
          · exact hQ2 k hk
        · rcases hk with hk | hk | hk | hk
          · exact hk.elim
          · exact .inl (.inl hk)
          · exact .inl (.inr hk)
          · exact .inr hk.1
      have HI2 := Lib.hid (mine_abides (Q := Q2) (K := K2) (V := V6) (f := f2) HJ.out (by omega) hQ2 hK2)
      have HX2 := Lib.hid (fun c => minex_abides (α := Int) (Q := Q2) (K := K2) (V := V6) (M := MM) HJx.out (by omega) hQ2 hK2 c)
      have HQ2 := Lib.hid hQ2
      have HK2 := Lib.hid hK2
      have HM36 := Lib.hid m36
      have HY6 : Hid (V6.heap[W.heap.size]? = some (.cells #[.func (.yield l) #[] #[]] 66 (0, 0))) := Lib.hid (m36.heap (HMV.out.heap HVY.out (fun hn => hn (.inr ⟨Nat.le_refl _, by omega⟩))) (fun h => h))
      have HX56 : Hid (V6.heap[X.heap.size]? = some (.cells #[.int .i64 x] 3 (0, 0))) := Lib.hid (m36.heap HX5.out (fun h => h))
      have hT6 : TzTab V6 := HTX.out.moved m36 (fun h => h)
      have hl6 : V6.heap[l1]? = some (.loop r) := m36.heap HXl.out (fun h => h)
      have hKm : Hid (∀ k, K2 k → O1 k ∨ K k ∨ (X.heap.size ≤ k ∧ k < V6.heap.size)) := Lib.hid (fun k hk => by
        rcases hk with hk | hk | hk | hk
        · exact .inr (.inl hk)
        · exact .inl hk
        · exact .inr (.inl (.inr hk))
        · exact .inr (.inr hk))
      have hKC : Hid (∀ k, K2 k → Q2 k ∨ C k) := Lib.hid (fun k hk => by
        rcases hk with (hk | hk) | hk
        · exact .inr hk
        · exact .inl (.inr (.inl hk))
        · exact .inl hk)
      have hclk := clock_bw (nn - 1 - 1 - 1) (by omega) M H (startH false) (startM false) s.da s.mo s.we s.ad s.aw 0 0 0 0 0 hM64 hH64 (by decide) (by decide) (X3.heap.size + 1) (X3.heap.size + 1 + 1) (X3.heap.size + 1 + 2) V6 v6w (by have h9 := v6s; rw [HM.out, HH.out] at h9; exact h9) (by have h9 := v6d; exact h9) hT6 (by have := hgW; omega)
      clear hQ2 hK2 m36 v6w v6s v6d
      clear z3
      gi_wp2_with fail
      have z3 := HZ3.out
      refine wpIn_rangeFunc_ON (F := Fence.wide.inRound l1) (l₀ := l1) (r₀ := r) rfl hl6 hn2 (gf := 68) (lb := #[ptrV (X3.heap.size + 1), ptrV (X3.heap.size + 1 + 1), ptrV (X3.heap.size + 1 + 2)]) rfl trivial (enters_of Tryd.func68 (by kernel_rfl) rfl)
        (SeqO.inRound l1 hclk) (Below.refl _ _) (fun k hk => by
          rcases hk with rfl | rfl | rfl | rfl
          · omega
          · omega
          · omega
          · have := HK.out _ (.inl (.inr (.inr (.inr (.inl rfl))))); omega) (fun _ => rfl)
        (Mine J Q2 K2 V6 f2) (fun c O _ Y => MineX Jx Q2 K2 V6 MM c O Y) HI2.out HX2.out hI20 ?hround2 ?hdone2 ?hstop2
      case hround2 =>
        intro l2 O2 pre2 c Y hOl2 hO2 hI hpre2
        obtain ⟨hJ2, hM2⟩ := hI
        have hcb := clockL_bd (prefix_mem hpre2)
        have hc0 := hcb.1
        have hc1 := hcb.2
        clear hcb
        have HO2 := Lib.hid hO2
        have HP2 := Lib.hid hpre2
        have HJ2 := Lib.hid hJ2
        have HM2 := Lib.hid hM2
        have HOl2 := Lib.hid hOl2
        clear hO2 hpre2 hJ2 hM2 hOl2 hT6 hl6 hI20 hclk w0
        simp only [List.zip_toArray, List.zip_cons_cons, List.zip_nil_left, List.zip_nil_right, List.size_toArray, List.length_cons, List.length_nil, List.foldl_toArray', List.foldl_cons, List.foldl_nil, List.setIfInBounds_toArray, List.set_cons_succ, List.set_cons_zero]
        gi_wp2_with fail
        refine ⟨Moved.refl _ Y, fun r2 Y3 hY3 => ?_⟩
        have mY : Moved (fun k => k = l2) Y Y3 := by rw [hY3]; exact moved_putObjO _ _ rfl
        clear hY3
        have hl2 := HO2.out _ HOl2.out
        have zM2 := HM2.out.size
        have hO2V : ∀ k, O2 k → V6.heap.size ≤ k := fun k hk => (HO2.out k hk).1
        have mV6 : Moved (fun k => ¬ K2 k) V6 Y3 := HM2.out.trans mY (fun k hk e hn => by have := HK2.out k hn; omega)
        have hY9 := cell_of_row Y3 W.heap.size 0 _ _ _ (mV6.heap HY6.out (fun hn => hn (.inr (.inr (.inl ⟨Nat.le_refl _, by omega⟩)))))
        have hY5 := cell_of_row Y3 X.heap.size 0 _ _ _ (mV6.heap HX56.out (fun hn => hn (.inr (.inr (.inr ⟨Nat.le_refl _, by omega⟩)))))
        have hown3 : OwnO W.heap.size (fun k => O2 k ∨ Q2 k) Y := fun k hk => by
          rcases hk with hk | hk
          · have := HO2.out k hk; omega
          · have := HQ2.out k hk; omega
        have hown : OwnO W.heap.size (fun k => O2 k ∨ Q2 k) Y3 := fun k hk => by have := hown3 k hk; have := mY.size; omega
        have hJ3 : J (fun k => O2 k ∨ Q2 k) (f2 pre2) Y3 := HJ.out.turn HJ2.out hown3 (mY.weaken (fun k _ e => .inl (e ▸ HOl2.out))) hown (fun k hk => .inl hk)
        have hpf : f2 pre2 ++ [x + c] <+: MM := by
          have h1 := map_prefix (f := fun c : Int => x + c) HP2.out
          rw [← HF.out, List.map_append] at h1
          have h2 := flat_prefix (f := dayL false H M TD hh mm) HP1.out h1
          rw [HMM.out]
          simpa [f2, f, List.append_assoc] using h2
        obtain ⟨fn, tmps, assign, body, hy, hR⟩ := (HY.out (fun k => O2 k ∨ Q2 k) (f2 pre2) (x + c) Y3 hown hJ3 hpf).deep (l0 := l2) (m' := nn - 1 - 1 - 1 - 1 - 1)
        have HR := Lib.hid hR
        have HPf := Lib.hid hpf
        have HMY := Lib.hid mV6
        clear hR hpf mV6 hJ3 hown hown3 hO2V mY zM2 hl2
        gi_wp2_with fail
        refine HR.out.mono ?_
        rintro e Y4 ⟨hcase, hM4⟩
        have mV4 : Moved (fun k => ¬ K2 k) V6 Y4 := HMY.out.trans hM4 (fun k _ hk hn => by
          rcases hKC.out k hn with h9 | h9
          · exact hk.1 (.inr h9)
          · exact hk.2 h9)
        have mR : Moved (fun k => ¬ O2 k ∧ ¬ (k = X3.heap.size + 1 ∨ k = X3.heap.size + 1 + 1 ∨ k = X3.heap.size + 1 + 2 ∨ k = 1)) Y3 Y4 := hM4.weaken (fun k _ hk => ⟨fun h9 => hk.1 (.inl h9), fun h9 => by
          rcases h9 with rfl | rfl | rfl | rfl
          · exact hk.1 (.inr (.inr (.inr ⟨by omega, by omega⟩)))
          · exact hk.1 (.inr (.inr (.inr ⟨by omega, by omega⟩)))
          · exact hk.1 (.inr (.inr (.inr ⟨by omega, by omega⟩)))
          · exact hk.2 (.inr (.inr (.inr (.inl rfl))))⟩)
        have HMR := Lib.hid mR
        have HMV4 := Lib.hid mV4
        have HM4 := Lib.hid hM4
        have hfs : f2 pre2 ++ [x + c] = f2 (pre2 ++ [c]) := by simp [f2, List.append_assoc]
        have HFs := Lib.hid hfs
        clear hM4 mV4 mR hfs
        rcases hcase with ⟨rfl, hJ4⟩ | ⟨rfl, hJx4⟩
        · have HJ4 := Lib.hid hJ4
          clear hJ4
          gi_wp2_with fail
          exact ⟨HMR.out, HFs.out ▸ HJ4.out, HMV4.out⟩
        · have HJ4 := Lib.hid hJx4
          clear hJx4
          gi_wp2_with fail
          exact ⟨HMR.out, rfl, ⟨_, HPf.out, HJ4.out⟩, HMV4.out⟩
      case hdone2 =>
        rintro O2 Y hO2 ⟨hJ2, hM2⟩
        have zM2 := hM2.size
        have hfs : f2 (clockL false H M (startH false) (startM false)) = f (pre ++ [x]) := by simp only [f2, f, List.flatMap_append, List.flatMap_cons, List.flatMap_nil, List.append_nil, HF.out]
        have hown3 : OwnO W.heap.size (fun k => O2 k ∨ Q2 k) Y := fun k hk => by
          rcases hk with hk | hk
          · have := hO2 k hk; omega
          · have := HQ2.out k hk; omega
        have hJ5 : J (fun k => O1 k ∨ Q k) (f (pre ++ [x])) Y := HJ.out.turn (hfs ▸ hJ2) hown3 (Moved.refl _ _) (fun k hk => by
          rcases hk with hk | hk
          · have := HO1.out k hk; omega
          · have := HQ.out k hk; omega) (fun k hk => by
          rcases hk with hk | hk
          · exact .inl (.inr (.inl hk))
          · exact .inl (.inr (.inr (.inl hk))))
        have m3Y : Moved (fun k => ¬ K2 k) X3 Y := (HM36.out.weaken (q := fun k => ¬ K2 k) (fun _ _ h => h.elim)).trans hM2 (fun _ _ h => h)
        have HM3Y := Lib.hid m3Y
        have HJ5 := Lib.hid hJ5
        clear hJ2 hM2 hJ5 m3Y hown3 hfs
        gi_wp2_with fail
        refine ⟨HM3Y.out.weaken (fun k _ hk => ⟨fun h9 => hk (.inr (.inl h9)), fun h9 => hk (.inl ?_)⟩), HJ5.out, HMV.out.trans HM3Y.out (fun k _ h9 hn => h9 (.inl hn))⟩
        rcases h9 with rfl | rfl | rfl | rfl | rfl
        · exact .inr ⟨by omega, by omega⟩
        · exact .inr ⟨by omega, by omega⟩
        · exact .inr ⟨by omega, by omega⟩
        · exact .inl (.inr (.inr (.inr (.inl rfl))))
        · exact .inl (.inr (.inr (.inr (.inr rfl))))
      case hstop2 =>
        rintro c O2 pre2 Y hO2 hpre2 ⟨rfl, ⟨q, hq, hx⟩, hM2⟩
        have zM2 := hM2.size
        have hown3 : OwnO W.heap.size (fun k => O2 k ∨ Q2 k) Y := fun k hk => by
          rcases hk with hk | hk
          · have := hO2 k hk; omega
          · have := HQ2.out k hk; omega
        have hJ5 : Jx (fun k => O1 k ∨ Q k) q Y := HJx.out.turn hx hown3 (Moved.refl _ _) (fun k hk => by
          rcases hk with hk | hk
          · have := HO1.out k hk; omega
          · have := HQ.out k hk; omega) (fun k hk => by
          rcases hk with hk | hk
          · exact .inl (.inr (.inl hk))
          · exact .inl (.inr (.inr (.inl hk))))
        have m3Y : Moved (fun k => ¬ K2 k) X3 Y := (HM36.out.weaken (q := fun k => ¬ K2 k) (fun _ _ h => h.elim)).trans hM2 (fun _ _ h => h)
        have HM3Y := Lib.hid m3Y
        have HJ5 := Lib.hid hJ5
        have HQq := Lib.hid hq
        clear hx hM2 hJ5 m3Y hown3 hq
        gi_wp2_with fail
        refine ⟨HM3Y.out.weaken (fun k _ hk => ⟨fun h9 => hk (.inr (.inl h9)), fun h9 => hk (.inl ?_)⟩), rfl, ⟨_, HQq.out, HJ5.out⟩, HMV.out.trans HM3Y.out (fun k _ h9 hn => h9 (.inl hn))⟩
        rcases h9 with rfl | rfl | rfl | rfl | rfl
        · exact .inr ⟨by omega, by omega⟩
        · exact .inr ⟨by omega, by omega⟩
        · exact .inr ⟨by omega, by omega⟩
        · exact .inl (.inr (.inr (.inr (.inl rfl))))
        · exact .inl (.inr (.inr (.inr (.inr rfl))))
  case hdone =>
    rintro D O Wd hD hOD hO ⟨hJd, hMd⟩ hK9
    have zd := hMd.size
    have zV := HZ.out
    have hown3 : OwnO W.heap.size (fun k => O k ∨ Q k) Wd := fun k hk => by
      rcases hk with hk | hk
      · have := hO k hk; omega
      · have := HQ.out k hk; omega
    have hJe : J (fun k => O k ∨ Q k) MM (Wd.putObj D (.deferred none)) := HJ.out.turn (show J (fun k => O k ∨ Q k) MM Wd by rw [HMM.out]; exact hJd) hown3 (moved_putObjO _ _ (.inl hOD)) (fun k hk => by have := hown3 k hk; simpa [World.putObj] using this) (fun k hk => .inl hk)
    have hown4 : OwnO W.heap.size (fun k => O k ∨ Q k) (Wd.putObj D (.deferred none)) := fun k hk => by have := hown3 k hk; simpa [World.putObj] using this
    have HKd := Lib.hid hK9
    have HJe := Lib.hid hJe
    have HO4 := Lib.hid hown4
    clear hJd hMd hJe hown3 hown4 hK9 hO
    gi_wp2_with fail
    refine ⟨by simp, .inl ⟨_, _, rfl, run_takeDeferred HKd.out, ?_⟩⟩
    exact ⟨_, results_none rfl _ _ _, ⟨_, rfl⟩, .inl ⟨_, HO4.out, HJe.out⟩⟩
  case hstop =>
    rintro D c O pre Wd hD hOD hO hpre ⟨rfl, ⟨q, hq, hx⟩, hMd⟩ hK9
    have zd := hMd.size
    have zV := HZ.out
    have hown3 : OwnO W.heap.size (fun k => O k ∨ Q k) Wd := fun k hk => by
      rcases hk with hk | hk
      · have := hO k hk; omega
      · have := HQ.out k hk; omega
    have hJe : Jx (fun k => O k ∨ Q k) q (Wd.putObj D (.deferred none)) := HJx.out.turn hx hown3 (moved_putObjO _ _ (.inl hOD)) (fun k hk => by have := hown3 k hk; simpa [World.putObj] using this) (fun k hk => .inl hk)
    have hown4 : OwnO W.heap.size (fun k => O k ∨ Q k) (Wd.putObj D (.deferred none)) := fun k hk => by have := hown3 k hk; simpa [World.putObj] using this
    have HKd := Lib.hid hK9
    have HJe := Lib.hid hJe
    have HO4 := Lib.hid hown4
    have HQq := Lib.hid hq
    clear hx hMd hJe hown3 hown4 hK9 hO hq
    gi_wp2_with fail
    refine ⟨by simp, .inl ⟨_, _, rfl, run_takeDeferred HKd.out, ?_⟩⟩
    exact ⟨_, results_none rfl _ _ _, ⟨_, rfl⟩, .inr ⟨_, _, HO4.out, HQq.out, HJe.out⟩⟩

set_option maxRecDepth 100000 in
set_option maxHeartbeats 4000000 in
theorem momNo_bw (nn : Nat) (hnn : 30 ≤ nn) (t : Int) (h : t < -62135596800 ∨ 253402300799 < t) (C : Nat → Prop) (pt pw ps : Nat) (w : World) (hpt : w.heap[pt]? = some (.cells #[.int .i64 t] 3 (0, 0))) :
    SeqO Fence.wide nn Tryd.prog 47 #[ptrV pt, ptrV pw, ptrV ps] (fun x : Int => #[.int .i64 x]) C [] w := fun l J Jx W hWb hJ hJx hY h0 => by
  refine callsIn_of_wp_marks Tryd.func47 rfl trivial ?_ rfl
  simp only [Tryd.ntmps47, List.size_toArray, List.length_cons, List.length_nil, Nat.reduceAdd, Nat.reduceSub, Array.replicate_succ, Array.replicate_zero, List.push_toArray, List.append_toArray, List.nil_append, List.cons_append]
  have kpt := (hWb.block _ (heap_lt hpt)).trans hpt
  have c0 : ∀ o, (W.alloc o).cell? ⟨pt, 0, none⟩ = some (.int .i64 t) := fun o => cell_of_row _ _ 0 _ _ _ (heap_old o (heap_lt kpt) kpt)
  have HOf := Lib.hid (fun V => of_no t V h)
  have hnn1 : 1 ≤ nn := by omega
  have HJ := Lib.hid hJ
  have H0 := Lib.hid h0
  clear h hpt hWb hJ hJx hY h0
  gi_wp2_with (refine ⟨trivial, ?_⟩; gi_at_call 25; refine (callsIn_wide.2 (HOf.out _)).mono ?_; rintro e w1 ⟨rfl, hb1⟩; have HB1 := Lib.hid ((below_alloc W _).trans (hb1.mono (by simp))); clear hb1)
  refine ⟨_, results_none rfl _ _ _, ⟨_, rfl⟩, .inl ⟨fun _ => False, fun _ h => h.elim, ?_⟩⟩
  exact HJ.out.turn H0.out (fun _ h => h.elim) (Below.movedNew (HB1.out.alloc HB1.out.size _)) (fun _ h => h.elim) (fun _ h => h.elim)
end Go.Proofs.YtnijneajlmgkjaaDoor
