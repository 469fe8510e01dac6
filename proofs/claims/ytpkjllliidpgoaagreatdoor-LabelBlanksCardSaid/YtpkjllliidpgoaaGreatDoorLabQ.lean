/- Walks of package label: a clause of a part. (gen_labq.py wrote it.) -/
import Derived.Test.YtpkjllliidpgoaaGreatDoorLabP
set_option linter.unusedSimpArgs false
set_option linter.unusedVariables false
namespace Go.Proofs.YtpkjllliidpgoaaGreatDoor
open Go.ChangeShapes Go.WideShapes Go.ChangeAt Go.RowKit Go.Base Go.Lab

def parseClB (t : Bytes) : Option PC :=
  if Lib.hasPrefix t [33] then madeP 4 (trimS (Lib.trimPrefix t [33])) []
  else if cutZ t = [] then madeP 3 (cutA t) []
  else if Lib.hasPrefix (cutZ t) [61, 61] then madeP 1 (cutA t) [trimS (Lib.trimPrefix (cutZ t) [61, 61])]
  else if Lib.hasPrefix (cutZ t) [61] then madeP 1 (cutA t) [trimS (Lib.trimPrefix (cutZ t) [61])]
  else if Lib.hasPrefix (cutZ t) [33, 61] then madeP 2 (cutA t) [trimS (Lib.trimPrefix (cutZ t) [33, 61])]
  else parseManyB (cutA t) (cutZ t)
theorem fit_none {w : World} {k : Int} {key : Bytes} (hk : key.length ≤ maxLen) : (⟨k, key, none, [], 0⟩ : Cl).Fit w :=
  ⟨hk, (fun i hi => by cases hi), by simp, by simp⟩
theorem fit_one {w : World} {k : Int} {key v : Bytes} (hk : key.length ≤ maxLen) (hv : v.length ≤ maxLen) : (⟨k, key, some ⟨w.heap.size, 0, none⟩, [v], 1⟩ : Cl).Fit (w.alloc (.cells #[strV v] 9)) :=
  ⟨hk, strs_one w _ v hv, (by show (1 : Nat) ≤ maxLen; unfold maxLen; decide), by simp⟩
/-- made, with no value. -/
theorem made0_yes {k : Int} {key : Bytes} (hk : key.length ≤ maxLen) (hs : sndB key [] = true) (W : World) :
    Calls Tryz.prog 56 #[.int .i64 k, strV key, .slice none 0 0] W fun e w' => e = .returned (.tuple #[clV ⟨k, key, none, [], 0⟩, .bool true]) ∧ Below W.heap.size W w' := made_yes (la := none) (vs := []) (lc := 0) (fit_none hk) hs
theorem made0_no {k : Int} {key : Bytes} (hk : key.length ≤ maxLen) (hs : sndB key [] = false) (W : World) :
    Calls Tryz.prog 56 #[.int .i64 k, strV key, .slice none 0 0] W fun e w' => e = .returned (.tuple #[clV0, .bool false]) ∧ Below W.heap.size W w' := made_no (la := none) (vs := []) (lc := 0) (fit_none hk) hs
/-- .. with one. -/
theorem made1_yes {k : Int} {key v : Bytes} (hk : key.length ≤ maxLen) (hv : v.length ≤ maxLen) (hs : sndB key [v] = true) (W : World) :
    Calls Tryz.prog 56 #[.int .i64 k, strV key, .slice (some ⟨W.heap.size, 0, none⟩) 1 1] (W.alloc (.cells #[strV v] 9)) fun e w' => e = .returned (.tuple #[clV ⟨k, key, some ⟨W.heap.size, 0, none⟩, [v], 1⟩, .bool true]) ∧ Below (W.alloc (.cells #[strV v] 9)).heap.size (W.alloc (.cells #[strV v] 9)) w' := made_yes (la := some ⟨W.heap.size, 0, none⟩) (vs := [v]) (lc := 1) (fit_one hk hv) hs
theorem made1_no {k : Int} {key v : Bytes} (hk : key.length ≤ maxLen) (hv : v.length ≤ maxLen) (hs : sndB key [v] = false) (W : World) :
    Calls Tryz.prog 56 #[.int .i64 k, strV key, .slice (some ⟨W.heap.size, 0, none⟩) 1 1] (W.alloc (.cells #[strV v] 9)) fun e w' => e = .returned (.tuple #[clV0, .bool false]) ∧ Below (W.alloc (.cells #[strV v] 9)).heap.size (W.alloc (.cells #[strV v] 9)) w' := made_no (la := some ⟨W.heap.size, 0, none⟩) (vs := [v]) (lc := 1) (fit_one hk hv) hs
set_option maxHeartbeats 4000000 in
set_option maxRecDepth 20000 in
theorem pc_not (t : Bytes) (ht : t.length ≤ 1000000) (hp : Lib.hasPrefix t [33] = true) (w : World) :
    Calls Tryz.prog 38 #[strV t] w (ClPost (madeP 4 (trimS (Lib.trimPrefix t [33])) []) w) := by
  have H0 := Lib.hid (fun W => cutPrefix_l t [33] W)
  rw [hp] at H0
  have ht0 : (Lib.trimPrefix t [33]).length ≤ maxLen := Nat.le_trans (trimPrefix_len _ _) (by unfold maxLen; omega)
  have HT := Lib.hid (fun W => trim_l _ ht0 W)
  have hkl : (trimS (Lib.trimPrefix t [33])).length ≤ maxLen := Nat.le_trans (trimS_len _) ht0
  generalize Lib.trimPrefix t [33] = t0 at *
  generalize trimS t0 = key at *
  clear hp ht ht0
  cases hq : sndB key []
  · have HM := Lib.hid (fun W => made0_no (k := 4) hkl hq W)
    have HR : Hid (madeP 4 key [] = none) := Lib.hid (by unfold madeP; rw [hq]; rfl)
    generalize madeP 4 key [] = r at *
    have HK := Lib.hid hkl
    clear hq hkl
    go_enter Tryz.func38, Tryz.ntmps38
    go_wp2_with (first | (refine wpList_store_new rfl 42 (.tmp 2) (.tmp 23) rfl w.heap.size #[.int .i64 0, .string ⟨#[]⟩, .slice none 0 0] rfl rfl 42 #[.int .i64 0, .string ⟨#[]⟩, .slice none 0 0] HB2.out.r0 (by kernel_rfl) rfl rfl ?_) | (go_at_call 55; refine (H0.out _).mono ?_; rintro e w1 ⟨rfl, rfl⟩) | (go_at_call 36; refine (HT.out _).mono ?_; rintro e w3 ⟨rfl, hb⟩; have HB1 := Lib.hid ((ResC.start w).call hb); clear hb) | (go_at_call 56; refine (HM.out _).mono ?_; rintro e w4 ⟨rfl, hb⟩; have HB2 := Lib.hid (HB1.out.call hb); clear hb))
    intro w2 s2 b2 r2 o2
    obtain ⟨c2, f2⟩ := cells_of_heap r2
    have B2 := Lib.hid (b2 w.heap.size w HB2.out.old (Nat.le_refl _))
    clear s2 b2 r2 o2 f2
    go_wp2
    exact bodyPost_ret (v := .tuple #[clV0, .bool false]) (by simp [results, Tryz.results38, go_sem, c2]) rfl (cl_none HR.out B2.out)
  · have HM := Lib.hid (fun W => made0_yes (k := 4) hkl hq W)
    have HR : Hid (madeP 4 key [] = some (4, key, [])) := Lib.hid (by unfold madeP; rw [hq]; rfl)
    generalize madeP 4 key [] = r at *
    have HK := Lib.hid hkl
    clear hq hkl
    go_enter Tryz.func38, Tryz.ntmps38
    go_wp2_with (first | (refine wpList_store_new rfl 42 (.tmp 2) (.tmp 23) rfl w.heap.size #[.int .i64 4, strV key, .slice none 0 0] rfl rfl 42 #[.int .i64 0, .string ⟨#[]⟩, .slice none 0 0] HB2.out.r0 (by kernel_rfl) rfl rfl ?_) | (go_at_call 55; refine (H0.out _).mono ?_; rintro e w1 ⟨rfl, rfl⟩) | (go_at_call 36; refine (HT.out _).mono ?_; rintro e w3 ⟨rfl, hb⟩; have HB1 := Lib.hid ((ResC.start w).call hb); clear hb) | (go_at_call 56; refine (HM.out _).mono ?_; rintro e w4 ⟨rfl, hb⟩; have HB2 := Lib.hid (HB1.out.call hb); clear hb))
    intro w2 s2 b2 r2 o2
    obtain ⟨c2, f2⟩ := cells_of_heap r2
    have B2 := Lib.hid (b2 w.heap.size w HB2.out.old (Nat.le_refl _))
    clear s2 b2 r2 o2 f2
    go_wp2
    exact bodyPost_ret (v := .tuple #[clV ⟨4, key, none, [], 0⟩, .bool true]) (by simp [results, Tryz.results38, go_sem, c2]) rfl (cl_some (c := ⟨4, key, none, [], 0⟩) HR.out (fit_none HK.out) (fun a ha => by cases ha) (TyS.none _) B2.out)
set_option maxHeartbeats 4000000 in
set_option maxRecDepth 20000 in
theorem pc_there (t : Bytes) (ht : t.length ≤ 1000000) (hp : Lib.hasPrefix t [33] = false) (hz : cutZ t = []) (w : World) :
    Calls Tryz.prog 38 #[strV t] w (ClPost (madeP 3 (cutA t) []) w) := by
  have H0 := Lib.hid (fun W => cutPrefix_l t [33] W)
  rw [hp] at H0
  have HC := Lib.hid (fun W => cutWord_l t (by unfold maxLen; omega) W)
  rw [hz] at HC
  have hkl : (cutA t).length ≤ maxLen := Nat.le_trans (cutA_len _) (by unfold maxLen; omega)
  generalize Lib.trimPrefix t [33] = t0 at *
  generalize cutA t = key at *
  clear hp ht hz
  cases hq : sndB key []
  · have HM := Lib.hid (fun W => made0_no (k := 3) hkl hq W)
    have HR : Hid (madeP 3 key [] = none) := Lib.hid (by unfold madeP; rw [hq]; rfl)
    generalize madeP 3 key [] = r at *
    have HK := Lib.hid hkl
    clear hq hkl
    go_enter Tryz.func38, Tryz.ntmps38
    go_wp2_with (first | (refine wpList_store_new rfl 42 (.tmp 2) (.tmp 34) rfl w.heap.size #[.int .i64 0, .string ⟨#[]⟩, .slice none 0 0] rfl rfl 42 #[.int .i64 0, .string ⟨#[]⟩, .slice none 0 0] HB2.out.r0 (by kernel_rfl) rfl rfl ?_) | (go_at_call 55; refine (H0.out _).mono ?_; rintro e w1 ⟨rfl, rfl⟩) | (go_at_call 57; refine (HC.out _).mono ?_; rintro e w1 ⟨rfl, hb⟩; have HB1 := Lib.hid ((ResC.start w).call hb); clear hb) | (go_at_call 56; refine (HM.out _).mono ?_; rintro e w4 ⟨rfl, hb⟩; have HB2 := Lib.hid (HB1.out.call hb); clear hb))
    intro w2 s2 b2 r2 o2
    obtain ⟨c2, f2⟩ := cells_of_heap r2
    have B2 := Lib.hid (b2 w.heap.size w HB2.out.old (Nat.le_refl _))
    clear s2 b2 r2 o2 f2
    go_wp2
    exact bodyPost_ret (v := .tuple #[clV0, .bool false]) (by simp [results, Tryz.results38, go_sem, c2]) rfl (cl_none HR.out B2.out)
  · have HM := Lib.hid (fun W => made0_yes (k := 3) hkl hq W)
    have HR : Hid (madeP 3 key [] = some (3, key, [])) := Lib.hid (by unfold madeP; rw [hq]; rfl)
    generalize madeP 3 key [] = r at *
    have HK := Lib.hid hkl
    clear hq hkl
    go_enter Tryz.func38, Tryz.ntmps38
    go_wp2_with (first | (refine wpList_store_new rfl 42 (.tmp 2) (.tmp 34) rfl w.heap.size #[.int .i64 3, strV key, .slice none 0 0] rfl rfl 42 #[.int .i64 0, .string ⟨#[]⟩, .slice none 0 0] HB2.out.r0 (by kernel_rfl) rfl rfl ?_) | (go_at_call 55; refine (H0.out _).mono ?_; rintro e w1 ⟨rfl, rfl⟩) | (go_at_call 57; refine (HC.out _).mono ?_; rintro e w1 ⟨rfl, hb⟩; have HB1 := Lib.hid ((ResC.start w).call hb); clear hb) | (go_at_call 56; refine (HM.out _).mono ?_; rintro e w4 ⟨rfl, hb⟩; have HB2 := Lib.hid (HB1.out.call hb); clear hb))
    intro w2 s2 b2 r2 o2
    obtain ⟨c2, f2⟩ := cells_of_heap r2
    have B2 := Lib.hid (b2 w.heap.size w HB2.out.old (Nat.le_refl _))
    clear s2 b2 r2 o2 f2
    go_wp2
    exact bodyPost_ret (v := .tuple #[clV ⟨3, key, none, [], 0⟩, .bool true]) (by simp [results, Tryz.results38, go_sem, c2]) rfl (cl_some (c := ⟨3, key, none, [], 0⟩) HR.out (fit_none HK.out) (fun a ha => by cases ha) (TyS.none _) B2.out)
set_option maxHeartbeats 4000000 in
set_option maxRecDepth 20000 in
theorem pc_eq2 (t : Bytes) (ht : t.length ≤ 1000000) (hp : Lib.hasPrefix t [33] = false) (hz : cutZ t ≠ []) (h1 : Lib.hasPrefix (cutZ t) [61, 61] = true) (w : World) :
    Calls Tryz.prog 38 #[strV t] w (ClPost (madeP 1 (cutA t) [trimS (Lib.trimPrefix (cutZ t) [61, 61])]) w) := by
  have H0 := Lib.hid (fun W => cutPrefix_l t [33] W)
  rw [hp] at H0
  have HC := Lib.hid (fun W => cutWord_l t (by unfold maxLen; omega) W)
  have hkl : (cutA t).length ≤ maxLen := Nat.le_trans (cutA_len _) (by unfold maxLen; omega)
  have H1 := Lib.hid (fun W => cutPrefix_l (cutZ t) [61, 61] W)
  rw [h1] at H1
  have ht0 : (Lib.trimPrefix (cutZ t) [61, 61]).length ≤ maxLen := Nat.le_trans (trimPrefix_len _ _) (Nat.le_trans (cutZ_len _) (by unfold maxLen; omega))
  have HT := Lib.hid (fun W => trim_l _ ht0 W)
  have hvl : (trimS (Lib.trimPrefix (cutZ t) [61, 61])).length ≤ maxLen := Nat.le_trans (trimS_len _) ht0
  clear h1 hp ht ht0
  generalize trimS (Lib.trimPrefix (cutZ t) [61, 61]) = v at *
  generalize Lib.trimPrefix (cutZ t) [61, 61] = t1 at *
  generalize Lib.trimPrefix t [33] = t0 at *
  generalize cutA t = key at *
  generalize cutZ t = z at *
  obtain ⟨zc, zl, rfl⟩ := List.exists_cons_of_ne_nil hz
  clear hz
  cases hq : sndB key [v]
  · have HM := Lib.hid (fun W => made1_no (k := 1) hkl hvl hq W)
    have HR : Hid (madeP 1 key [v] = none) := Lib.hid (by unfold madeP; rw [hq]; rfl)
    generalize madeP 1 key [v] = r at *
    have hkl := Lib.hid hkl
    have hvl := Lib.hid hvl
    clear hq
    go_enter Tryz.func38, Tryz.ntmps38
    go_wp2_with (first | (go_at_call 55; refine (H0.out _).mono ?_; rintro e w1 ⟨rfl, rfl⟩) | (go_at_call 57; refine (HC.out _).mono ?_; rintro e w1 ⟨rfl, hb⟩; have HB1 := Lib.hid ((ResC.start w).call hb); clear hb))
    have HB2 := Lib.hid (HB1.out.call (below_alloc w1 (.cells #[strV [61, 61], strV [61]] 9)))
    have c1 := (cells_of_heap (heap_new w1 (.cells #[strV [61, 61], strV [61]] 9))).1
    have c10 := c1 0
    have c11 := c1 1
    clear c1
    go_loopw [38] (fun i wr => ∃ k : Nat, k = 0 ∧ i = .int .i64 (k : Int) ∧ wr = w1.alloc (.cells #[strV [61, 61], strV [61]] 9)) (fun i _ => 2 - (intOf i).toNat)
    case atStart => exact ⟨0, by omega, rfl, rfl⟩
    case round =>
      obtain ⟨k, hk, rfl, rfl⟩ := hrel
      subst hk
      go_wp2_with (first | (refine wpList_store_new rfl 42 (.tmp 2) (.tmp 54) rfl w.heap.size #[.int .i64 0, .string ⟨#[]⟩, .slice none 0 0] rfl rfl 42 #[.int .i64 0, .string ⟨#[]⟩, .slice none 0 0] HB4.out.r0 (by kernel_rfl) rfl rfl ?_) | (go_at_call 55; refine (H1.out _).mono ?_; rintro e w1 ⟨rfl, rfl⟩) | (go_at_call 36; refine (HT.out _).mono ?_; rintro e w3 ⟨rfl, hb⟩; have HB3 := Lib.hid (HB2.out.call hb); clear hb) | (go_at_call 56; refine (HM.out _).mono ?_; rintro e w4 ⟨rfl, hb⟩; have HB4 := Lib.hid ((HB3.out.call (below_alloc _ _)).call hb); clear hb))
      intro w2 s2 b2 r2 o2
      obtain ⟨c2, f2⟩ := cells_of_heap r2
      have B2 := Lib.hid (b2 w.heap.size w HB4.out.old (Nat.le_refl _))
      clear s2 b2 r2 o2 f2
      go_wp2
      exact bodyPost_ret (v := .tuple #[clV0, .bool false]) (by simp [results, Tryz.results38, go_sem, c2]) rfl (cl_none HR.out B2.out)
  · have HM := Lib.hid (fun W => made1_yes (k := 1) hkl hvl hq W)
    have HR : Hid (madeP 1 key [v] = some (1, key, [v])) := Lib.hid (by unfold madeP; rw [hq]; rfl)
    generalize madeP 1 key [v] = r at *
    have hkl := Lib.hid hkl
    have hvl := Lib.hid hvl
    clear hq
    go_enter Tryz.func38, Tryz.ntmps38
    go_wp2_with (first | (go_at_call 55; refine (H0.out _).mono ?_; rintro e w1 ⟨rfl, rfl⟩) | (go_at_call 57; refine (HC.out _).mono ?_; rintro e w1 ⟨rfl, hb⟩; have HB1 := Lib.hid ((ResC.start w).call hb); clear hb))
    have HB2 := Lib.hid (HB1.out.call (below_alloc w1 (.cells #[strV [61, 61], strV [61]] 9)))
    have c1 := (cells_of_heap (heap_new w1 (.cells #[strV [61, 61], strV [61]] 9))).1
    have c10 := c1 0
    have c11 := c1 1
    clear c1
    go_loopw [38] (fun i wr => ∃ k : Nat, k = 0 ∧ i = .int .i64 (k : Int) ∧ wr = w1.alloc (.cells #[strV [61, 61], strV [61]] 9)) (fun i _ => 2 - (intOf i).toNat)
    case atStart => exact ⟨0, by omega, rfl, rfl⟩
    case round =>
      obtain ⟨k, hk, rfl, rfl⟩ := hrel
      subst hk
      go_wp2_with (first | (refine wpList_store_new rfl 42 (.tmp 2) (.tmp 54) rfl w.heap.size #[.int .i64 1, strV key, .slice (some ⟨w3.heap.size, 0, none⟩) 1 1] rfl rfl 42 #[.int .i64 0, .string ⟨#[]⟩, .slice none 0 0] HB4.out.r0 (by kernel_rfl) rfl rfl ?_) | (go_at_call 55; refine (H1.out _).mono ?_; rintro e w1 ⟨rfl, rfl⟩) | (go_at_call 36; refine (HT.out _).mono ?_; rintro e w3 ⟨rfl, hb⟩; have HB3 := Lib.hid (HB2.out.call hb); clear hb) | (go_at_call 56; refine (HM.out _).mono ?_; rintro e w4 ⟨rfl, hb⟩; have HB4 := Lib.hid ((HB3.out.call (below_alloc _ _)).call hb); have HFt := Lib.hid ((fit_one (k := 1) hkl.out hvl.out).later hb); have HG := Lib.hid (heap_lt HB3.out.r0); have HTy := Lib.hid ((TyS.of (heap_new w3 (.cells #[strV v] 9))).later hb); clear hb))
      intro w2 s2 b2 r2 o2
      obtain ⟨c2, f2⟩ := cells_of_heap r2
      have B2 := Lib.hid (b2 w.heap.size w HB4.out.old (Nat.le_refl _))
      have HFt5 := Lib.hid (HFt.out.other o2 (fun a ha => by injection ha with ha; subst ha; exact Nat.ne_of_gt HG.out))
      have HTy5 := Lib.hid (HTy.out.other o2 (fun a ha => by injection ha with ha; subst ha; exact Nat.ne_of_gt HG.out))
      clear s2 b2 r2 o2 f2
      go_wp2
      exact bodyPost_ret (v := .tuple #[clV ⟨1, key, some ⟨w3.heap.size, 0, none⟩, [v], 1⟩, .bool true]) (by simp [results, Tryz.results38, go_sem, c2]) rfl (cl_some (c := ⟨1, key, some ⟨w3.heap.size, 0, none⟩, [v], 1⟩) HR.out HFt5.out (fun a ha => by injection ha with ha; subst ha; exact Nat.le_of_lt HG.out) HTy5.out B2.out)
set_option maxHeartbeats 4000000 in
set_option maxRecDepth 20000 in
theorem pc_eq (t : Bytes) (ht : t.length ≤ 1000000) (hp : Lib.hasPrefix t [33] = false) (hz : cutZ t ≠ []) (h1 : Lib.hasPrefix (cutZ t) [61, 61] = false) (h2 : Lib.hasPrefix (cutZ t) [61] = true) (w : World) :
    Calls Tryz.prog 38 #[strV t] w (ClPost (madeP 1 (cutA t) [trimS (Lib.trimPrefix (cutZ t) [61])]) w) := by
  have H0 := Lib.hid (fun W => cutPrefix_l t [33] W)
  rw [hp] at H0
  have HC := Lib.hid (fun W => cutWord_l t (by unfold maxLen; omega) W)
  have hkl : (cutA t).length ≤ maxLen := Nat.le_trans (cutA_len _) (by unfold maxLen; omega)
  have H1 := Lib.hid (fun W => cutPrefix_l (cutZ t) [61, 61] W)
  rw [h1] at H1
  have H2 := Lib.hid (fun W => cutPrefix_l (cutZ t) [61] W)
  rw [h2] at H2
  have ht0 : (Lib.trimPrefix (cutZ t) [61]).length ≤ maxLen := Nat.le_trans (trimPrefix_len _ _) (Nat.le_trans (cutZ_len _) (by unfold maxLen; omega))
  have HT := Lib.hid (fun W => trim_l _ ht0 W)
  have hvl : (trimS (Lib.trimPrefix (cutZ t) [61])).length ≤ maxLen := Nat.le_trans (trimS_len _) ht0
  clear h1 h2 hp ht ht0
  generalize trimS (Lib.trimPrefix (cutZ t) [61]) = v at *
  generalize Lib.trimPrefix (cutZ t) [61, 61] = t1 at *
  generalize Lib.trimPrefix (cutZ t) [61] = t2 at *
  generalize Lib.trimPrefix t [33] = t0 at *
  generalize cutA t = key at *
  generalize cutZ t = z at *
  obtain ⟨zc, zl, rfl⟩ := List.exists_cons_of_ne_nil hz
  clear hz
  cases hq : sndB key [v]
  · have HM := Lib.hid (fun W => made1_no (k := 1) hkl hvl hq W)
    have HR : Hid (madeP 1 key [v] = none) := Lib.hid (by unfold madeP; rw [hq]; rfl)
    generalize madeP 1 key [v] = r at *
    have hkl := Lib.hid hkl
    have hvl := Lib.hid hvl
    clear hq
    go_enter Tryz.func38, Tryz.ntmps38
    go_wp2_with (first | (go_at_call 55; refine (H0.out _).mono ?_; rintro e w1 ⟨rfl, rfl⟩) | (go_at_call 57; refine (HC.out _).mono ?_; rintro e w1 ⟨rfl, hb⟩; have HB1 := Lib.hid ((ResC.start w).call hb); clear hb))
    have HB2 := Lib.hid (HB1.out.call (below_alloc w1 (.cells #[strV [61, 61], strV [61]] 9)))
    have c1 := (cells_of_heap (heap_new w1 (.cells #[strV [61, 61], strV [61]] 9))).1
    have c10 := c1 0
    have c11 := c1 1
    clear c1
    go_loopw [38] (fun i wr => ∃ k : Nat, k ≤ 1 ∧ i = .int .i64 (k : Int) ∧ wr = w1.alloc (.cells #[strV [61, 61], strV [61]] 9)) (fun i _ => 2 - (intOf i).toNat)
    case atStart => exact ⟨0, by omega, rfl, rfl⟩
    case round =>
      obtain ⟨k, hk, rfl, rfl⟩ := hrel
      rcases (by omega : k = 0 ∨ k = 1) with rfl | rfl
      · go_wp2_with (first | (go_at_call 55; refine (H1.out _).mono ?_; rintro e w1 ⟨rfl, rfl⟩))
        go_roundw
        case rel => exact ⟨1, by omega, by go_num, by first | trivial | rfl⟩
        case measure => simp [intOf]
      · skip
        go_wp2_with (first | (refine wpList_store_new rfl 42 (.tmp 2) (.tmp 54) rfl w.heap.size #[.int .i64 0, .string ⟨#[]⟩, .slice none 0 0] rfl rfl 42 #[.int .i64 0, .string ⟨#[]⟩, .slice none 0 0] HB4.out.r0 (by kernel_rfl) rfl rfl ?_) | (go_at_call 55; refine (H2.out _).mono ?_; rintro e w1 ⟨rfl, rfl⟩) | (go_at_call 36; refine (HT.out _).mono ?_; rintro e w3 ⟨rfl, hb⟩; have HB3 := Lib.hid (HB2.out.call hb); clear hb) | (go_at_call 56; refine (HM.out _).mono ?_; rintro e w4 ⟨rfl, hb⟩; have HB4 := Lib.hid ((HB3.out.call (below_alloc _ _)).call hb); clear hb))
        intro w2 s2 b2 r2 o2
        obtain ⟨c2, f2⟩ := cells_of_heap r2
        have B2 := Lib.hid (b2 w.heap.size w HB4.out.old (Nat.le_refl _))
        clear s2 b2 r2 o2 f2
        go_wp2
        exact bodyPost_ret (v := .tuple #[clV0, .bool false]) (by simp [results, Tryz.results38, go_sem, c2]) rfl (cl_none HR.out B2.out)
  · have HM := Lib.hid (fun W => made1_yes (k := 1) hkl hvl hq W)
    have HR : Hid (madeP 1 key [v] = some (1, key, [v])) := Lib.hid (by unfold madeP; rw [hq]; rfl)
    generalize madeP 1 key [v] = r at *
    have hkl := Lib.hid hkl
    have hvl := Lib.hid hvl
    clear hq
    go_enter Tryz.func38, Tryz.ntmps38
    go_wp2_with (first | (go_at_call 55; refine (H0.out _).mono ?_; rintro e w1 ⟨rfl, rfl⟩) | (go_at_call 57; refine (HC.out _).mono ?_; rintro e w1 ⟨rfl, hb⟩; have HB1 := Lib.hid ((ResC.start w).call hb); clear hb))
    have HB2 := Lib.hid (HB1.out.call (below_alloc w1 (.cells #[strV [61, 61], strV [61]] 9)))
    have c1 := (cells_of_heap (heap_new w1 (.cells #[strV [61, 61], strV [61]] 9))).1
    have c10 := c1 0
    have c11 := c1 1
    clear c1
    go_loopw [38] (fun i wr => ∃ k : Nat, k ≤ 1 ∧ i = .int .i64 (k : Int) ∧ wr = w1.alloc (.cells #[strV [61, 61], strV [61]] 9)) (fun i _ => 2 - (intOf i).toNat)
    case atStart => exact ⟨0, by omega, rfl, rfl⟩
    case round =>
      obtain ⟨k, hk, rfl, rfl⟩ := hrel
      rcases (by omega : k = 0 ∨ k = 1) with rfl | rfl
      · go_wp2_with (first | (go_at_call 55; refine (H1.out _).mono ?_; rintro e w1 ⟨rfl, rfl⟩))
        go_roundw
        case rel => exact ⟨1, by omega, by go_num, by first | trivial | rfl⟩
        case measure => simp [intOf]
      · skip
        go_wp2_with (first | (refine wpList_store_new rfl 42 (.tmp 2) (.tmp 54) rfl w.heap.size #[.int .i64 1, strV key, .slice (some ⟨w3.heap.size, 0, none⟩) 1 1] rfl rfl 42 #[.int .i64 0, .string ⟨#[]⟩, .slice none 0 0] HB4.out.r0 (by kernel_rfl) rfl rfl ?_) | (go_at_call 55; refine (H2.out _).mono ?_; rintro e w1 ⟨rfl, rfl⟩) | (go_at_call 36; refine (HT.out _).mono ?_; rintro e w3 ⟨rfl, hb⟩; have HB3 := Lib.hid (HB2.out.call hb); clear hb) | (go_at_call 56; refine (HM.out _).mono ?_; rintro e w4 ⟨rfl, hb⟩; have HB4 := Lib.hid ((HB3.out.call (below_alloc _ _)).call hb); have HFt := Lib.hid ((fit_one (k := 1) hkl.out hvl.out).later hb); have HG := Lib.hid (heap_lt HB3.out.r0); have HTy := Lib.hid ((TyS.of (heap_new w3 (.cells #[strV v] 9))).later hb); clear hb))
        intro w2 s2 b2 r2 o2
        obtain ⟨c2, f2⟩ := cells_of_heap r2
        have B2 := Lib.hid (b2 w.heap.size w HB4.out.old (Nat.le_refl _))
        have HFt5 := Lib.hid (HFt.out.other o2 (fun a ha => by injection ha with ha; subst ha; exact Nat.ne_of_gt HG.out))
        have HTy5 := Lib.hid (HTy.out.other o2 (fun a ha => by injection ha with ha; subst ha; exact Nat.ne_of_gt HG.out))
        clear s2 b2 r2 o2 f2
        go_wp2
        exact bodyPost_ret (v := .tuple #[clV ⟨1, key, some ⟨w3.heap.size, 0, none⟩, [v], 1⟩, .bool true]) (by simp [results, Tryz.results38, go_sem, c2]) rfl (cl_some (c := ⟨1, key, some ⟨w3.heap.size, 0, none⟩, [v], 1⟩) HR.out HFt5.out (fun a ha => by injection ha with ha; subst ha; exact Nat.le_of_lt HG.out) HTy5.out B2.out)
set_option maxHeartbeats 4000000 in
set_option maxRecDepth 20000 in
theorem pc_ne (t : Bytes) (ht : t.length ≤ 1000000) (hp : Lib.hasPrefix t [33] = false) (hz : cutZ t ≠ []) (h1 : Lib.hasPrefix (cutZ t) [61, 61] = false) (h2 : Lib.hasPrefix (cutZ t) [61] = false) (h3 : Lib.hasPrefix (cutZ t) [33, 61] = true) (w : World) :
    Calls Tryz.prog 38 #[strV t] w (ClPost (madeP 2 (cutA t) [trimS (Lib.trimPrefix (cutZ t) [33, 61])]) w) := by
  have H0 := Lib.hid (fun W => cutPrefix_l t [33] W)
  rw [hp] at H0
  have HC := Lib.hid (fun W => cutWord_l t (by unfold maxLen; omega) W)
  have hkl : (cutA t).length ≤ maxLen := Nat.le_trans (cutA_len _) (by unfold maxLen; omega)
  have H1 := Lib.hid (fun W => cutPrefix_l (cutZ t) [61, 61] W)
  rw [h1] at H1
  have H2 := Lib.hid (fun W => cutPrefix_l (cutZ t) [61] W)
  rw [h2] at H2
  have H3 := Lib.hid (fun W => cutPrefix_l (cutZ t) [33, 61] W)
  rw [h3] at H3
  have ht0 : (Lib.trimPrefix (cutZ t) [33, 61]).length ≤ maxLen := Nat.le_trans (trimPrefix_len _ _) (Nat.le_trans (cutZ_len _) (by unfold maxLen; omega))
  have HT := Lib.hid (fun W => trim_l _ ht0 W)
  have hvl : (trimS (Lib.trimPrefix (cutZ t) [33, 61])).length ≤ maxLen := Nat.le_trans (trimS_len _) ht0
  clear h1 h2 h3 hp ht ht0
  generalize trimS (Lib.trimPrefix (cutZ t) [33, 61]) = v at *
  generalize Lib.trimPrefix (cutZ t) [61, 61] = t1 at *
  generalize Lib.trimPrefix (cutZ t) [61] = t2 at *
  generalize Lib.trimPrefix (cutZ t) [33, 61] = t3 at *
  generalize Lib.trimPrefix t [33] = t0 at *
  generalize cutA t = key at *
  generalize cutZ t = z at *
  obtain ⟨zc, zl, rfl⟩ := List.exists_cons_of_ne_nil hz
  clear hz
  cases hq : sndB key [v]
  · have HM := Lib.hid (fun W => made1_no (k := 2) hkl hvl hq W)
    have HR : Hid (madeP 2 key [v] = none) := Lib.hid (by unfold madeP; rw [hq]; rfl)
    generalize madeP 2 key [v] = r at *
    have hkl := Lib.hid hkl
    have hvl := Lib.hid hvl
    clear hq
    go_enter Tryz.func38, Tryz.ntmps38
    go_wp2_with (first | (go_at_call 55; refine (H0.out _).mono ?_; rintro e w1 ⟨rfl, rfl⟩) | (go_at_call 57; refine (HC.out _).mono ?_; rintro e w1 ⟨rfl, hb⟩; have HB1 := Lib.hid ((ResC.start w).call hb); clear hb))
    have HB2 := Lib.hid (HB1.out.call (below_alloc w1 (.cells #[strV [61, 61], strV [61]] 9)))
    have c1 := (cells_of_heap (heap_new w1 (.cells #[strV [61, 61], strV [61]] 9))).1
    have c10 := c1 0
    have c11 := c1 1
    clear c1
    go_loopw [38] (fun i wr => ∃ k : Nat, k ≤ 2 ∧ i = .int .i64 (k : Int) ∧ wr = w1.alloc (.cells #[strV [61, 61], strV [61]] 9)) (fun i _ => 2 - (intOf i).toNat)
    case atStart => exact ⟨0, by omega, rfl, rfl⟩
    case round =>
      obtain ⟨k, hk, rfl, rfl⟩ := hrel
      rcases (by omega : k = 0 ∨ k = 1 ∨ k = 2) with rfl | rfl | rfl
      · go_wp2_with (first | (go_at_call 55; refine (H1.out _).mono ?_; rintro e w1 ⟨rfl, rfl⟩))
        go_roundw
        case rel => exact ⟨1, by omega, by go_num, by first | trivial | rfl⟩
        case measure => simp [intOf]
      · go_wp2_with (first | (go_at_call 55; refine (H2.out _).mono ?_; rintro e w1 ⟨rfl, rfl⟩))
        go_roundw
        case rel => exact ⟨2, by omega, by go_num, by first | trivial | rfl⟩
        case measure => simp [intOf]
      · skip
        go_wp2_with (first | (refine wpList_store_new rfl 42 (.tmp 2) (.tmp 68) rfl w.heap.size #[.int .i64 0, .string ⟨#[]⟩, .slice none 0 0] rfl rfl 42 #[.int .i64 0, .string ⟨#[]⟩, .slice none 0 0] HB4.out.r0 (by kernel_rfl) rfl rfl ?_) | (go_at_call 55; refine (H3.out _).mono ?_; rintro e w1 ⟨rfl, rfl⟩) | (go_at_call 36; refine (HT.out _).mono ?_; rintro e w3 ⟨rfl, hb⟩; have HB3 := Lib.hid (HB2.out.call hb); clear hb) | (go_at_call 56; refine (HM.out _).mono ?_; rintro e w4 ⟨rfl, hb⟩; have HB4 := Lib.hid ((HB3.out.call (below_alloc _ _)).call hb); clear hb))
        intro w2 s2 b2 r2 o2
        obtain ⟨c2, f2⟩ := cells_of_heap r2
        have B2 := Lib.hid (b2 w.heap.size w HB4.out.old (Nat.le_refl _))
        clear s2 b2 r2 o2 f2
        go_wp2
        exact bodyPost_ret (v := .tuple #[clV0, .bool false]) (by simp [results, Tryz.results38, go_sem, c2]) rfl (cl_none HR.out B2.out)
  · have HM := Lib.hid (fun W => made1_yes (k := 2) hkl hvl hq W)
    have HR : Hid (madeP 2 key [v] = some (2, key, [v])) := Lib.hid (by unfold madeP; rw [hq]; rfl)
    generalize madeP 2 key [v] = r at *
    have hkl := Lib.hid hkl
    have hvl := Lib.hid hvl
    clear hq
    go_enter Tryz.func38, Tryz.ntmps38
    go_wp2_with (first | (go_at_call 55; refine (H0.out _).mono ?_; rintro e w1 ⟨rfl, rfl⟩) | (go_at_call 57; refine (HC.out _).mono ?_; rintro e w1 ⟨rfl, hb⟩; have HB1 := Lib.hid ((ResC.start w).call hb); clear hb))
    have HB2 := Lib.hid (HB1.out.call (below_alloc w1 (.cells #[strV [61, 61], strV [61]] 9)))
    have c1 := (cells_of_heap (heap_new w1 (.cells #[strV [61, 61], strV [61]] 9))).1
    have c10 := c1 0
    have c11 := c1 1
    clear c1
    go_loopw [38] (fun i wr => ∃ k : Nat, k ≤ 2 ∧ i = .int .i64 (k : Int) ∧ wr = w1.alloc (.cells #[strV [61, 61], strV [61]] 9)) (fun i _ => 2 - (intOf i).toNat)
    case atStart => exact ⟨0, by omega, rfl, rfl⟩
    case round =>
      obtain ⟨k, hk, rfl, rfl⟩ := hrel
      rcases (by omega : k = 0 ∨ k = 1 ∨ k = 2) with rfl | rfl | rfl
      · go_wp2_with (first | (go_at_call 55; refine (H1.out _).mono ?_; rintro e w1 ⟨rfl, rfl⟩))
        go_roundw
        case rel => exact ⟨1, by omega, by go_num, by first | trivial | rfl⟩
        case measure => simp [intOf]
      · go_wp2_with (first | (go_at_call 55; refine (H2.out _).mono ?_; rintro e w1 ⟨rfl, rfl⟩))
        go_roundw
        case rel => exact ⟨2, by omega, by go_num, by first | trivial | rfl⟩
        case measure => simp [intOf]
      · skip
        go_wp2_with (first | (refine wpList_store_new rfl 42 (.tmp 2) (.tmp 68) rfl w.heap.size #[.int .i64 2, strV key, .slice (some ⟨w3.heap.size, 0, none⟩) 1 1] rfl rfl 42 #[.int .i64 0, .string ⟨#[]⟩, .slice none 0 0] HB4.out.r0 (by kernel_rfl) rfl rfl ?_) | (go_at_call 55; refine (H3.out _).mono ?_; rintro e w1 ⟨rfl, rfl⟩) | (go_at_call 36; refine (HT.out _).mono ?_; rintro e w3 ⟨rfl, hb⟩; have HB3 := Lib.hid (HB2.out.call hb); clear hb) | (go_at_call 56; refine (HM.out _).mono ?_; rintro e w4 ⟨rfl, hb⟩; have HB4 := Lib.hid ((HB3.out.call (below_alloc _ _)).call hb); have HFt := Lib.hid ((fit_one (k := 2) hkl.out hvl.out).later hb); have HG := Lib.hid (heap_lt HB3.out.r0); have HTy := Lib.hid ((TyS.of (heap_new w3 (.cells #[strV v] 9))).later hb); clear hb))
        intro w2 s2 b2 r2 o2
        obtain ⟨c2, f2⟩ := cells_of_heap r2
        have B2 := Lib.hid (b2 w.heap.size w HB4.out.old (Nat.le_refl _))
        have HFt5 := Lib.hid (HFt.out.other o2 (fun a ha => by injection ha with ha; subst ha; exact Nat.ne_of_gt HG.out))
        have HTy5 := Lib.hid (HTy.out.other o2 (fun a ha => by injection ha with ha; subst ha; exact Nat.ne_of_gt HG.out))
        clear s2 b2 r2 o2 f2
        go_wp2
        exact bodyPost_ret (v := .tuple #[clV ⟨2, key, some ⟨w3.heap.size, 0, none⟩, [v], 1⟩, .bool true]) (by simp [results, Tryz.results38, go_sem, c2]) rfl (cl_some (c := ⟨2, key, some ⟨w3.heap.size, 0, none⟩, [v], 1⟩) HR.out HFt5.out (fun a ha => by injection ha with ha; subst ha; exact Nat.le_of_lt HG.out) HTy5.out B2.out)
set_option maxHeartbeats 4000000 in
set_option maxRecDepth 20000 in
theorem pc_many (t : Bytes) (ht : t.length ≤ 1000000) (hp : Lib.hasPrefix t [33] = false) (hz : cutZ t ≠ []) (h1 : Lib.hasPrefix (cutZ t) [61, 61] = false) (h2 : Lib.hasPrefix (cutZ t) [61] = false) (h3 : Lib.hasPrefix (cutZ t) [33, 61] = false) (w : World) (hV0 : VarI w) :
    Calls Tryz.prog 38 #[strV t] w (ClPost (parseManyB (cutA t) (cutZ t)) w) := by
  have H0 := Lib.hid (fun W => cutPrefix_l t [33] W)
  rw [hp] at H0
  have HC := Lib.hid (fun W => cutWord_l t (by unfold maxLen; omega) W)
  have hkl : (cutA t).length ≤ maxLen := Nat.le_trans (cutA_len _) (by unfold maxLen; omega)
  have H1 := Lib.hid (fun W => cutPrefix_l (cutZ t) [61, 61] W)
  rw [h1] at H1
  have H2 := Lib.hid (fun W => cutPrefix_l (cutZ t) [61] W)
  rw [h2] at H2
  have H3 := Lib.hid (fun W => cutPrefix_l (cutZ t) [33, 61] W)
  rw [h3] at H3
  have HPm := Lib.hid (fun W (hb : Below w.heap.size w W) => parseMany_l (cutA t) (cutZ t) (Nat.le_trans (cutA_len _) ht) (Nat.le_trans (cutZ_len _) ht) W (hV0.later hb))
  clear h1 h2 h3 hp ht hkl hV0
  generalize hr : parseManyB (cutA t) (cutZ t) = r at *
  clear hr
  generalize Lib.trimPrefix (cutZ t) [61, 61] = t1 at *
  generalize Lib.trimPrefix (cutZ t) [61] = t2 at *
  generalize Lib.trimPrefix (cutZ t) [33, 61] = t3 at *
  generalize Lib.trimPrefix t [33] = t0 at *
  generalize cutA t = key at *
  generalize cutZ t = z at *
  obtain ⟨zc, zl, rfl⟩ := List.exists_cons_of_ne_nil hz
  clear hz
  cases r with
  | none =>
    go_enter Tryz.func38, Tryz.ntmps38
    go_wp2_with (first | (go_at_call 55; refine (H0.out _).mono ?_; rintro e w1 ⟨rfl, rfl⟩) | (go_at_call 57; refine (HC.out _).mono ?_; rintro e w1 ⟨rfl, hb⟩; have HB1 := Lib.hid ((ResC.start w).call hb); clear hb))
    have HB2 := Lib.hid (HB1.out.call (below_alloc w1 (.cells #[strV [61, 61], strV [61]] 9)))
    have c1 := (cells_of_heap (heap_new w1 (.cells #[strV [61, 61], strV [61]] 9))).1
    have c10 := c1 0
    have c11 := c1 1
    clear c1
    go_loopw [38] (fun i wr => ∃ k : Nat, k ≤ 2 ∧ i = .int .i64 (k : Int) ∧ wr = w1.alloc (.cells #[strV [61, 61], strV [61]] 9)) (fun i _ => 2 - (intOf i).toNat)
    case atStart => exact ⟨0, by omega, rfl, rfl⟩
    case round =>
      obtain ⟨k, hk, rfl, rfl⟩ := hrel
      rcases (by omega : k = 0 ∨ k = 1 ∨ k = 2) with rfl | rfl | rfl
      · go_wp2_with (first | (go_at_call 55; refine (H1.out _).mono ?_; rintro e w1 ⟨rfl, rfl⟩))
        go_roundw
        case rel => exact ⟨1, by omega, by go_num, by first | trivial | rfl⟩
        case measure => simp [intOf]
      · go_wp2_with (first | (go_at_call 55; refine (H2.out _).mono ?_; rintro e w1 ⟨rfl, rfl⟩))
        go_roundw
        case rel => exact ⟨2, by omega, by go_num, by first | trivial | rfl⟩
        case measure => simp [intOf]
      · skip
        go_wp2_with (first | (refine wpList_store_new rfl 42 (.tmp 2) (.tmp 73) rfl w.heap.size #[.int .i64 0, .string ⟨#[]⟩, .slice none 0 0] rfl rfl 42 #[.int .i64 0, .string ⟨#[]⟩, .slice none 0 0] HB4.out.r0 (by kernel_rfl) rfl rfl ?_) | (go_at_call 55; refine (H3.out _).mono ?_; rintro e w1 ⟨rfl, rfl⟩) | (go_at_call 58; refine (HPm.out _ HB2.out.old).mono ?_; rintro e w4 ⟨h, _, hb⟩; obtain rfl := h rfl; have HB4 := Lib.hid (HB2.out.call hb); clear h hb))
        intro w2 s2 b2 r2 o2
        obtain ⟨c2, f2⟩ := cells_of_heap r2
        have B2 := Lib.hid (b2 w.heap.size w HB4.out.old (Nat.le_refl _))
        clear s2 b2 r2 o2 f2
        go_wp2
        exact bodyPost_ret (v := .tuple #[clV0, .bool false]) (by simp [results, Tryz.results38, go_sem, c2]) rfl (cl_none rfl B2.out)
  | some p =>
    obtain ⟨kk, ky, vs⟩ := p
    go_enter Tryz.func38, Tryz.ntmps38
    go_wp2_with (first | (go_at_call 55; refine (H0.out _).mono ?_; rintro e w1 ⟨rfl, rfl⟩) | (go_at_call 57; refine (HC.out _).mono ?_; rintro e w1 ⟨rfl, hb⟩; have HB1 := Lib.hid ((ResC.start w).call hb); clear hb))
    have HB2 := Lib.hid (HB1.out.call (below_alloc w1 (.cells #[strV [61, 61], strV [61]] 9)))
    have c1 := (cells_of_heap (heap_new w1 (.cells #[strV [61, 61], strV [61]] 9))).1
    have c10 := c1 0
    have c11 := c1 1
    clear c1
    go_loopw [38] (fun i wr => ∃ k : Nat, k ≤ 2 ∧ i = .int .i64 (k : Int) ∧ wr = w1.alloc (.cells #[strV [61, 61], strV [61]] 9)) (fun i _ => 2 - (intOf i).toNat)
    case atStart => exact ⟨0, by omega, rfl, rfl⟩
    case round =>
      obtain ⟨k, hk, rfl, rfl⟩ := hrel
      rcases (by omega : k = 0 ∨ k = 1 ∨ k = 2) with rfl | rfl | rfl
      · go_wp2_with (first | (go_at_call 55; refine (H1.out _).mono ?_; rintro e w1 ⟨rfl, rfl⟩))
        go_roundw
        case rel => exact ⟨1, by omega, by go_num, by first | trivial | rfl⟩
        case measure => simp [intOf]
      · go_wp2_with (first | (go_at_call 55; refine (H2.out _).mono ?_; rintro e w1 ⟨rfl, rfl⟩))
        go_roundw
        case rel => exact ⟨2, by omega, by go_num, by first | trivial | rfl⟩
        case measure => simp [intOf]
      · skip
        go_wp2_with (first | (refine wpList_store_new rfl 42 (.tmp 2) (.tmp 73) rfl w.heap.size #[.int .i64 kk, strV ky, .slice la vs.length lc] rfl rfl 42 #[.int .i64 0, .string ⟨#[]⟩, .slice none 0 0] HB4.out.r0 (by kernel_rfl) rfl rfl ?_) | (go_at_call 55; refine (H3.out _).mono ?_; rintro e w1 ⟨rfl, rfl⟩) | (go_at_call 58; refine (HPm.out _ HB2.out.old).mono ?_; rintro e w4 ⟨_, h, hb⟩; obtain ⟨la, lc, rfl, hf, hg, hty⟩ := h _ _ _ rfl; have HTy := Lib.hid hty; have HB4 := Lib.hid (HB2.out.call hb); have HFt := Lib.hid hf; have HG := Lib.hid (fun a ha => Nat.lt_of_lt_of_le (heap_lt HB2.out.r0) (hg a ha)); clear h hb hf hg hty))
        intro w2 s2 b2 r2 o2
        obtain ⟨c2, f2⟩ := cells_of_heap r2
        have B2 := Lib.hid (b2 w.heap.size w HB4.out.old (Nat.le_refl _))
        have HFt5 := Lib.hid (HFt.out.other o2 (fun a ha => Nat.ne_of_gt (HG.out a ha)))
        have HTy5 := Lib.hid (HTy.out.other o2 (fun a ha => Nat.ne_of_gt (HG.out a ha)))
        clear s2 b2 r2 o2 f2
        go_wp2
        exact bodyPost_ret (v := .tuple #[clV ⟨kk, ky, la, vs, lc⟩, .bool true]) (by simp [results, Tryz.results38, go_sem, c2]) rfl (cl_some (c := ⟨kk, ky, la, vs, lc⟩) rfl HFt5.out (fun a ha => Nat.le_of_lt (HG.out a ha)) HTy5.out B2.out)
theorem parseClause_l (t : Bytes) (ht : t.length ≤ 1000000) (w : World) (hV : VarI w) :
    Calls Tryz.prog 38 #[strV t] w (ClPost (parseClB t) w) := by
  unfold parseClB
  cases hp : Lib.hasPrefix t [33]
  · rw [if_neg (by decide)]
    by_cases hz : cutZ t = []
    · rw [if_pos hz]; exact pc_there t ht hp hz w
    rw [if_neg hz]
    cases h1 : Lib.hasPrefix (cutZ t) [61, 61]
    · rw [if_neg (by decide)]
      cases h2 : Lib.hasPrefix (cutZ t) [61]
      · rw [if_neg (by decide)]
        cases h3 : Lib.hasPrefix (cutZ t) [33, 61]
        · rw [if_neg (by decide)]; exact pc_many t ht hp hz h1 h2 h3 w hV
        · rw [if_pos rfl]; exact pc_ne t ht hp hz h1 h2 h3 w
      · rw [if_pos rfl]; exact pc_eq t ht hp hz h1 h2 w
    · rw [if_pos rfl]; exact pc_eq2 t ht hp hz h1 w
  · rw [if_pos rfl]; exact pc_not t ht hp w
end Go.Proofs.YtpkjllliidpgoaaGreatDoor
