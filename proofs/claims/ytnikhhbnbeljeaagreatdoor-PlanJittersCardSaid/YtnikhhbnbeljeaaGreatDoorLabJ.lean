/- Walks of package label: clauses printed. -/
import Derived.Test.YtnikhhbnbeljeaaGreatDoorLabA
import Derived.Test.YtnikhhbnbeljeaaGreatDoorBase
import Derived.Test.YtnikhhbnbeljeaaGreatDoorOpen
import Derived.Test.YtnikhhbnbeljeaaGreatDoorMoved
import Derived.Test.YtnikhhbnbeljeaaGreatDoorLabC
import Derived.Test.YtnikhhbnbeljeaaGreatDoorLabG
import Derived.Test.YtnikhhbnbeljeaaGreatDoorLabH
import Derived.Test.YtnikhhbnbeljeaaGreatDoorJoin
import Derived.Test.YtnikhhbnbeljeaaGreatDoorLabI
import Derived.Test.YtnikhhbnbeljeaaGreatDoorProg
import Derived.PlainAid
import Derived.WalkKit
import Derived.Handy
import Derived.ProofKit
import Derived.OpenShut
import Derived.Deep.DeepHandedRow
import Derived.Lib.Hide
import Derived.Laws.Tables
import Derived.Carry
import Derived.Outline
import Derived.WalkSmall
import Derived.WalkSpells
import Derived.WalkLawsBesides
import Derived.SliceStrings
import Derived.Laws.AppendOwn
import Derived.Laws.Rows
import Derived.BigQuiet
import Derived.Deep.QuietTactic
import Derived.Laws.EntriesVeiled
import Derived.Shelf.Strings.OnBuilder
import Derived.Deep.RegionHeld3
import Derived.OwnWalk
set_option linter.unusedSimpArgs false
set_option linter.unusedVariables false
namespace Go.Proofs.YtnikhhbnbeljeaaGreatDoor.LB
open Go.ChangeShapes Go.WideShapes Go.ChangeAt Go.RowKit Go.Base Go.Lab

theorem word_len {l : Bytes} (h : wordB l = true) : l.length ≤ 32 := by
  unfold wordB at h
  simp only [Bool.and_eq_true, decide_eq_true_eq] at h
  exact h.1.2
theorem val_len {l : Bytes} (h : valB l = true) : l.length ≤ 32 := by
  unfold valB at h
  rcases Bool.or_eq_true_iff.1 h with h | h
  · have : l = [] := by simpa using h
    subst this; simp
  · exact word_len h
theorem write_val (f : Nat) (a s t : Bytes) (kind : Int) (key : Bytes) (la : Option Addr) (vals : List Bytes) (lc : Nat) (w : World) (hs : s.length ≤ 10) (ht : t.length ≤ 10) (hk : key.length ≤ 32) (h1 : 1 ≤ vals.length) (h16 : vals.length ≤ 16) (hx : ∀ x ∈ vals, x.length ≤ 32) (hv : Strs w la vals) (hcap : vals.length ≤ lc) :
    Calls Tryz.prog 119 #[manV f a s t true, clV ⟨kind, key, la, vals, lc⟩] w fun e w' => e = .returned (strV (oneT a s t true key vals)) ∧ Below w.heap.size w w' := by
  by_cases h : vals.length = 1
  · match vals, h with
    | [x], _ => exact write_one f a s t kind key la x lc w hs hk (hx x (by simp)) hv
  · exact write_many f a s t kind key la vals lc w ht hk (by omega) h16 hx hv hcap
theorem oneT_len {a s t : Bytes} {v : Bool} {key : Bytes} {vals : List Bytes} (ha : a.length ≤ 10) (hs : s.length ≤ 10) (ht : t.length ≤ 10) (hk : key.length ≤ 32) (h16 : vals.length ≤ 16) (hx : ∀ x ∈ vals, x.length ≤ 32) : (oneT a s t v key vals).length ≤ 700 := by
  have hj := join_le 32 [44] vals hx
  simp only [List.length_cons, List.length_nil] at hj
  unfold oneT
  split
  · simp; omega
  · split
    · rename_i x
      have := hx x (by simp)
      simp; omega
    · simp; omega
/-- A clause's text, by its kind. -/
def clT (kind : Int) (key : Bytes) (vals : List Bytes) : Bytes :=
  if kind = 1 then oneT [] [61] [32, 105, 110, 32] true key vals else if kind = 2 then oneT [] [33, 61] [32, 110, 111, 116, 105, 110, 32] true key vals
  else if kind = 3 then oneT [] [] [] false key vals else oneT [33] [] [] false key vals
/-- May a clause be? -/
def rightB (c : Cl) : Bool := (if c.kind = 1 ∨ c.kind = 2 then takesB true c.vals.length else if c.kind = 3 ∨ c.kind = 4 then takesB false c.vals.length else false) && soundB c
abbrev clTx (c : Cl) : Bytes := clT c.kind c.key c.vals
def printB (cs : List Cl) : Bytes := if decide (cs.length ≤ 16) && cs.all rightB then Lib.join (cs.map clTx) [44] else []
theorem sound_lens {x : Cl} (h : soundB x = true) : x.key.length ≤ 32 ∧ ∀ v ∈ x.vals, v.length ≤ 32 := by
  unfold soundB at h
  simp only [Bool.and_eq_true] at h
  exact ⟨word_len h.2, fun v hv => val_len (List.all_eq_true.1 h.1 v hv)⟩
/-- What a kind of clauses asks and writes. -/
def KindOk (x : Cl) (f : Nat) (a s t : Bytes) (v : Bool) : Prop :=
  (∀ V, Calls Tryz.prog 116 #[.int .i64 x.kind] V fun e w' => e = .returned (.tuple #[manV f a s t v, .bool true]) ∧ Below V.heap.size V w') ∧
  rightB x = (takesB v x.vals.length && soundB x) ∧
  (takesB v x.vals.length = true → soundB x = true → ∀ V, x.Fit V → Calls Tryz.prog 119 #[manV f a s t v, clV x] V fun e w' => e = .returned (strV (clTx x)) ∧ Below V.heap.size V w')
theorem takes_true {n : Nat} (h : takesB true n = true) : 1 ≤ n ∧ n ≤ 16 := by
  unfold takesB at h; simpa using h
theorem kind_any (x : Cl) : (∃ f a s t v, KindOk x f a s t v) ∨ (rightB x = false ∧ ∀ V, Calls Tryz.prog 116 #[.int .i64 x.kind] V fun e w' => e = .returned (.tuple #[.agg #[.nilFunc, .string ⟨#[]⟩, .string ⟨#[]⟩, .string ⟨#[]⟩, .bool false], .bool false]) ∧ Below V.heap.size V w') := by
  obtain ⟨kind, key, la, vals, lc⟩ := x
  by_cases h1 : kind = 1
  · subst h1
    refine .inl ⟨_, [], [61], [32, 105, 110, 32], true, fun V => manner_1 V, rfl, fun ht hs V hf => ?_⟩
    obtain ⟨hk, hx⟩ := sound_lens hs
    obtain ⟨t1, t2⟩ := takes_true ht
    exact write_val _ [] [61] [32, 105, 110, 32] 1 key la vals lc V (by decide) (by decide) hk t1 t2 hx hf.v hf.c
  by_cases h2 : kind = 2
  · subst h2
    refine .inl ⟨_, [], [33, 61], [32, 110, 111, 116, 105, 110, 32], true, fun V => manner_2 V, rfl, fun ht hs V hf => ?_⟩
    obtain ⟨hk, hx⟩ := sound_lens hs
    obtain ⟨t1, t2⟩ := takes_true ht
    exact write_val _ [] [33, 61] [32, 110, 111, 116, 105, 110, 32] 2 key la vals lc V (by decide) (by decide) hk t1 t2 hx hf.v hf.c
  by_cases h3 : kind = 3
  · subst h3
    refine .inl ⟨_, [], [], [], false, fun V => manner_3 V, rfl, fun ht hs V hf => ?_⟩
    exact write_plain _ [] [] [] ⟨3, key, la, vals, lc⟩ V (by decide) (sound_lens hs).1
  by_cases h4 : kind = 4
  · subst h4
    refine .inl ⟨_, [33], [], [], false, fun V => manner_4 V, rfl, fun ht hs V hf => ?_⟩
    exact write_plain _ [33] [] [] ⟨4, key, la, vals, lc⟩ V (by decide) (sound_lens hs).1
  refine .inr ⟨?_, fun V => manner_no kind (by simpa using h1) (by simpa using h2) (by simpa using h3) (by simpa using h4) V⟩
  unfold rightB
  simp only
  rw [if_neg (by omega), if_neg (by omega)]; rfl
theorem clT_len {x : Cl} (hr : rightB x = true) : (clTx x).length ≤ 700 := by
  unfold rightB at hr
  simp only [Bool.and_eq_true] at hr
  obtain ⟨hk, hx⟩ := sound_lens hr.2
  have hn : x.vals.length ≤ 16 := by
    have h := hr.1
    split at h
    · exact (takes_true h).2
    · split at h
      · unfold takesB at h; simp at h; simp [h]
      · cases h
  unfold clTx clT
  split
  · exact oneT_len (by decide) (by decide) (by decide) hk hn hx
  · split
    · exact oneT_len (by decide) (by decide) (by decide) hk hn hx
    · split <;> exact oneT_len (by decide) (by decide) (by decide) hk hn hx
/-- The rounds of Print: k clauses are written. -/
def PrRel (w : World) (g : Nat) (cs : List Cl) (k : Nat) (wr : World) : Prop :=
  Below w.heap.size w wr ∧ w.heap.size ≤ g ∧ ∃ cur : Array Value, wr.heap[g]? = some (.cells cur 9 (0, 0)) ∧ cur.size = cs.length ∧ cur.toList.take k = (cs.take k).map fun c => strV (clTx c)
set_option maxHeartbeats 4000000 in
set_option maxRecDepth 20000 in
theorem print_any (A : Option Addr) (cs : List Cl) (c : Nat) (w : World) (hC : Cls w A cs) (hm : cs.length ≤ maxLen) :
    Calls Tryz.prog 63 #[.slice A cs.length c] w fun e w' => e = .returned (strV (printB cs)) ∧ Below w.heap.size w w' := by
  have HC := Lib.hid hC
  unfold maxLen at hm
  have HP : Hid (printB cs = if decide (cs.length ≤ 16) && cs.all rightB then Lib.join (cs.map clTx) [44] else []) := Lib.hid rfl
  generalize hr : printB cs = T at *
  clear hr hC
  by_cases h16 : cs.length ≤ 16
  · have h16' : (cs.length : Int) ≤ 16 := by omega
    obtain ⟨i0, hinfo, hz0, hz1, hz2⟩ := info_parts (P := Tryz.prog) (e := 9) (z := .string ⟨#[]⟩) (size := 1) (bytes := 16) (by kernel_rfl)
    go_enter Tryz.func63, Tryz.ntmps63
    go_wp2_with (refine wpList_make_full _ rfl (.tmp 12) (.tmp 12) 54 rfl w.heap.size 9 i0 (.string ⟨#[]⟩) 1 Tryz.underlying54 hinfo hz0 hz1 .i64 .i64 _ _ cs.length rfl rfl rfl rfl (by rw [hz2]; omega) (by unfold maxLen; omega) (Nat.le_refl _) ?_; intro w1 hown hgrow)
    have hown2 := hown.2
    rcases hown2 with ⟨hbad, _⟩ | ⟨g, cap, cur, hv, hgb, hheap, hnc, hcm, hcs, _⟩
    · cases hbad
    injection hv with hv _ hcapn
    injection hv with hv
    injection hv with hv _ _
    subst hv
    subst hcapn
    have hr0 : PrRel w w.heap.size cs 0 w1 := ⟨(Below.refl _ _).grown hgrow (Nat.le_refl _) (fun k h => by cases h), Nat.le_refl _, cur, hheap, by simpa using hcs, by simp⟩
    have HR0 := Lib.hid hr0
    clear hown hgrow hr0 hheap hcs hgb hcm hnc
    go_loopw [4, 5, 6, 7, 16] (fun _ _ _ _ i wr => ∃ k : Nat, k ≤ cs.length ∧ i = .int .i64 (k : Int) ∧ Hid (∀ x ∈ cs.take k, rightB x = true) ∧ Hid (PrRel w w.heap.size cs k wr)) (fun _ _ _ _ i _ => cs.length - (intOf i).toNat)
    case atStart => exact ⟨0, Nat.zero_le _, rfl, Lib.hid (by simp), HR0⟩
    case round =>
      obtain ⟨k, hk, rfl, HF, HR⟩ := hrel
      clear HR0
      by_cases hlt : k < cs.length
      · have hlt' : (k : Int) < (cs.length : Int) := by omega
        have hk0 : (0 : Int) ≤ (k : Int) := by omega
        have hbel := HR.out.1
        obtain ⟨b, o, rfl, c0, c1, c2, hf⟩ := (HC.out.later hbel) k hlt
        have HBr := Lib.hid hbel
        have HFx := Lib.hid hf
        have HT := Lib.hid (take_memC (p := fun x => rightB x = true) hlt HF.out)
        have HG : Hid (rightB cs[k] = false → T = []) := Lib.hid (fun h => by
          rw [HP.out, List.all_eq_false.2 ⟨cs[k], List.getElem_mem _, by rw [h]; decide⟩]; simp)
        have HTK : Hid ((cs.take (k + 1)).map (fun c => strV (clTx c)) = (cs.take k).map (fun c => strV (clTx c)) ++ [strV (clTx cs[k])]) := Lib.hid (by rw [List.take_succ_eq_append_getElem hlt, List.map_append]; rfl)
        have hkind := kind_any cs[k]
        have HSo := Lib.hid (fun (V : World) (h : cs[k].Fit V) => sound_any cs[k] V h (fun v hv => by
          obtain ⟨j, hj, rfl⟩ := List.mem_iff_getElem.1 hv
          obtain ⟨_, _, _, _, h5⟩ := hf.v j hj
          exact h5))
        clear hbel hf
        generalize cs[k] = x at *
        have HKW := Lib.hid (fun (V : World) (h : Below (wr.alloc (.cells #[.int .i64 x.kind, strV x.key, .slice x.la x.vals.length x.lc] 95)).heap.size (wr.alloc (.cells #[.int .i64 x.kind, strV x.key, .slice x.la x.vals.length x.lc] 95)) V) => kept_new h)
        have HBA := Lib.hid (below_alloc wr (.cells #[.int .i64 x.kind, strV x.key, .slice x.la x.vals.length x.lc] 95))
        rcases hkind with ⟨f, a, s, t, v, HMan, hright, hwrite⟩ | ⟨hright, hman⟩
        · have HM := Lib.hid HMan
          have HRi := Lib.hid hright
          have HWr := Lib.hid hwrite
          have HTa := Lib.hid (fun V => takes_any f a s t v x.vals.length V)
          clear HMan hright hwrite
          cases htk : takesB v x.vals.length
          · rw [htk] at HTa
            have HV : Hid (T = []) := Lib.hid (HG.out (by rw [HRi.out, htk]; rfl))
            clear htk
            obtain ⟨kind, key, la, vals, lc⟩ := x
            go_wp2_with (first | (go_at_call 116; refine (HM.out _).mono ?_; rintro e w2 ⟨rfl, hb⟩; have hz := HKW.out _ hb; have hlt2 := heap_lt hz; have hc := (cells_of_heap hz).1; have d0 := hc 0; have d1 := hc 1; have d2 := hc 2; have HB := Lib.hid (HBA.out.trans (hb.mono HBA.out.size)); clear hb hc hz) | (go_at_call 117; refine (HTa.out _).mono ?_; rintro e w3 ⟨rfl, hb⟩; have HB3 := Lib.hid ((HB.out.alloc HB.out.size _).trans (hb.mono (HB.out.alloc HB.out.size _).size)); clear hb))
            go_ret
            exact ⟨(show Ending.returned (.string ⟨#[]⟩) = _ by rw [HV.out]), HBr.out.trans (HB3.out.mono HBr.out.size)⟩
          · rw [htk] at HTa
            cases hsd : soundB x
            · rw [hsd] at HSo
              have HV : Hid (T = []) := Lib.hid (HG.out (by rw [HRi.out, htk, hsd]; rfl))
              clear htk hsd
              obtain ⟨kind, key, la, vals, lc⟩ := x
              go_wp2_with (first | (go_at_call 116; refine (HM.out _).mono ?_; rintro e w2 ⟨rfl, hb⟩; have hz := HKW.out _ hb; have hlt2 := heap_lt hz; have hc := (cells_of_heap hz).1; have d0 := hc 0; have d1 := hc 1; have d2 := hc 2; have HB := Lib.hid hb; have HKM := Lib.hid (fun (V : World) (h : Below (w2.alloc (.cells #[.func (.func f) #[] #[], strV a, strV s, strV t, .bool v] 153)).heap.size (w2.alloc (.cells #[.func (.func f) #[] #[], strV a, strV s, strV t, .bool v] 153)) V) => kept_new h); clear hb hc hz) | (go_at_call 117; refine (HTa.out _).mono ?_; rintro e w3 ⟨rfl, hb⟩; have HM3 := Lib.hid hb; have hb3 := (HB.out.alloc HB.out.size (.cells #[.func (.func f) #[] #[], strV a, strV s, strV t, .bool v] 153)).trans (hb.mono (HB.out.alloc HB.out.size (.cells #[.func (.func f) #[] #[], strV a, strV s, strV t, .bool v] 153)).size); have hc := (cells_of_heap (HKW.out _ hb3)).1; have e0 := hc 0; have e1 := hc 1; have e2 := hc 2; have HB3 := Lib.hid hb3; clear hb hb3 hc d0 d1 d2) | (go_at_call 118; refine (HSo.out _ (HFx.out.later (HBA.out.trans (HB3.out.mono HBA.out.size)))).mono ?_; rintro e w4 ⟨rfl, hb⟩; have hm4 := HM3.out.trans (hb.mono HM3.out.size); have hb4 := HB3.out.trans (hb.mono HB3.out.size); have hc := (cells_of_heap (HKW.out _ hb4)).1; have g0 := hc 0; have g1 := hc 1; have g2 := hc 2; have hd := (cells_of_heap (HKM.out _ hm4)).1; have m0 := hd 0; have m1 := hd 1; have m2 := hd 2; have m3 := hd 3; have m4 := hd 4; have HB4 := Lib.hid hb4; clear hb hb4 hm4 hc hd e0 e1 e2))
              go_ret
              exact ⟨(show Ending.returned (.string ⟨#[]⟩) = _ by rw [HV.out]), HBr.out.trans ((HBA.out.trans (HB4.out.mono HBA.out.size)).mono HBr.out.size)⟩
            · rw [hsd] at HSo
              have HT2 := Lib.hid (HT.out (by rw [HRi.out, htk, hsd]; rfl))
              have HW2 := Lib.hid (hsd |> (htk |> HWr.out))
              clear htk hsd HWr
              generalize clTx x = X at *
              obtain ⟨_, hg0, cur, hcur, hcs, hct⟩ := HR.out
              have HCUR := Lib.hid hcur
              have HCT := Lib.hid hct
              have HG0 := Lib.hid hg0
              obtain ⟨v0, hv0⟩ : ∃ v0, cur[k]? = some v0 := ⟨cur[k]'(by omega), by simp⟩
              have HV0 := Lib.hid hv0
              have HCS := Lib.hid hcs
              clear hcur hct hg0 hv0 hcs
              obtain ⟨kind, key, la, vals, lc⟩ := x
              go_wp2_with (first | (go_at_call 116; refine (HM.out _).mono ?_; rintro e w2 ⟨rfl, hb⟩; have hz := HKW.out _ hb; have hlt2 := heap_lt hz; have hc := (cells_of_heap hz).1; have d0 := hc 0; have d1 := hc 1; have d2 := hc 2; have HB := Lib.hid hb; have HKM := Lib.hid (fun (V : World) (h : Below (w2.alloc (.cells #[.func (.func f) #[] #[], strV a, strV s, strV t, .bool v] 153)).heap.size (w2.alloc (.cells #[.func (.func f) #[] #[], strV a, strV s, strV t, .bool v] 153)) V) => kept_new h); clear hb hc hz) | (go_at_call 117; refine (HTa.out _).mono ?_; rintro e w3 ⟨rfl, hb⟩; have HM3 := Lib.hid hb; have hb3 := (HB.out.alloc HB.out.size (.cells #[.func (.func f) #[] #[], strV a, strV s, strV t, .bool v] 153)).trans (hb.mono (HB.out.alloc HB.out.size (.cells #[.func (.func f) #[] #[], strV a, strV s, strV t, .bool v] 153)).size); have hc := (cells_of_heap (HKW.out _ hb3)).1; have e0 := hc 0; have e1 := hc 1; have e2 := hc 2; have HB3 := Lib.hid hb3; clear hb hb3 hc d0 d1 d2) | (go_at_call 118; refine (HSo.out _ (HFx.out.later (HBA.out.trans (HB3.out.mono HBA.out.size)))).mono ?_; rintro e w4 ⟨rfl, hb⟩; have hm4 := HM3.out.trans (hb.mono HM3.out.size); have hb4 := HB3.out.trans (hb.mono HB3.out.size); have hc := (cells_of_heap (HKW.out _ hb4)).1; have g0 := hc 0; have g1 := hc 1; have g2 := hc 2; have hd := (cells_of_heap (HKM.out _ hm4)).1; have m0 := hd 0; have m1 := hd 1; have m2 := hd 2; have m3 := hd 3; have m4 := hd 4; have HB4 := Lib.hid hb4; clear hb hb4 hm4 hc hd e0 e1 e2) | (go_at_call 119; refine (HW2.out _ (HFx.out.later (HBA.out.trans (HB4.out.mono HBA.out.size)))).mono ?_; rintro e w5 ⟨rfl, hb⟩; have hb5 := HBA.out.trans ((HB4.out.trans (hb.mono HB4.out.size)).mono HBA.out.size); have hh := (hb5.block w.heap.size (heap_lt HCUR.out)).trans HCUR.out; have p0 := ((cells_of_heap hh).1 k).trans HV0.out; have p1 := (cells_of_heap hh).2 k; have HH := Lib.hid hh; have HB5 := Lib.hid hb5; clear hb hb5 hh g0 g1 g2 m0 m1 m2 m3 m4))
              go_roundw
              case rel =>
                refine ⟨k + 1, by omega, by go_num, HT2, Lib.hid ⟨(HBr.out.trans (HB5.out.mono HBr.out.size)).setCell (Nat.le_refl _) _, Nat.le_refl _, _, heap_set HH.out k (strV X), by simpa using HCS.out, ?_⟩⟩
                have h1 := HCT.out
                have h2 := HCS.out
                rw [HTK.out, Array.toList_setIfInBounds, List.take_succ_eq_append_getElem (by simp; omega), List.take_set_of_le (Nat.le_refl _), h1]
                simp only [List.getElem_set_self]
              case measure => simp [intOf]; omega
        · have HM := Lib.hid hman
          have HV : Hid (T = []) := Lib.hid (HG.out hright)
          clear hman hright
          obtain ⟨kind, key, la, vals, lc⟩ := x
          go_wp2_with (first | (go_at_call 116; refine (HM.out _).mono ?_; rintro e w2 ⟨rfl, hb⟩; have HB := Lib.hid (HBA.out.trans (hb.mono HBA.out.size)); clear hb))
          go_ret
          exact ⟨(show Ending.returned (.string ⟨#[]⟩) = _ by rw [HV.out]), HBr.out.trans ((HB.out.alloc HB.out.size _).mono HBr.out.size)⟩
      · obtain rfl : k = cs.length := by omega
        obtain ⟨hb, hg0, cur, hcur, hcs, hct⟩ := HR.out
        have hall : cs.all rightB = true := List.all_eq_true.2 (fun x hx => HF.out x (by rw [List.take_length]; exact hx))
        have HV : Hid (T = Lib.join (cs.map clTx) [44]) := Lib.hid (by rw [HP.out, hall, decide_eq_true h16]; rfl)
        have hjl : (Lib.join (cs.map clTx) [44]).length ≤ 140737488355328 := by
          have := join_le 700 [44] (cs.map clTx) (fun x hx => by
            obtain ⟨c', hc', rfl⟩ := List.mem_map.1 hx
            exact clT_len (List.all_eq_true.1 hall c' hc'))
          simp only [List.length_map, List.length_cons, List.length_nil] at this
          omega
        have hmap : ((cs.map fun c => (⟨(clTx c).toArray⟩ : ByteArray))).map (·.data.toList) = cs.map clTx := by rw [List.map_map]; simp [Function.comp_def]
        have HJ : Hid (Calls Tryz.prog 96 #[.slice (some ⟨w.heap.size, 0, none⟩) cs.length cs.length, .string ⟨#[44]⟩] wr fun e w' => e = .returned (.string ⟨(Lib.join (cs.map clTx) [44]).toArray⟩) ∧ Below wr.heap.size wr w') := Lib.hid (by
          have := join_any w.heap.size 0 cs.length (cs.map fun c => (⟨(clTx c).toArray⟩ : ByteArray)) ⟨#[44]⟩ wr (fun j y hj => by
            rw [List.getElem?_map] at hj
            cases hg : cs[j]? with
            | none => rw [hg] at hj; cases hj
            | some z =>
              rw [hg] at hj
              injection hj with hj; subst hj
              obtain ⟨hjl, rfl⟩ := List.getElem?_eq_some_iff.1 hg
              rw [Nat.zero_add, cell_of_row wr w.heap.size j cur _ (0, 0) hcur, ← Array.getElem?_toList]
              have h3 : (cur.toList.take cs.length)[j]? = ((cs.take cs.length).map fun c => strV (clTx c))[j]? := by rw [hct]
              rw [List.getElem?_take_of_lt hjl, List.take_length, List.getElem?_map, hg] at h3
              exact h3) (heap_lt hcur) (by simp; omega) (by simp) (by rw [hmap]; exact hjl)
          rw [hmap, List.length_map] at this
          exact this)
        have HB := Lib.hid hb
        clear hcur hcs hct hmap hb hall hjl
        generalize Lib.join (cs.map clTx) [44] = J at *
        go_wp2_with (go_at_call 96; refine HJ.out.mono ?_; rintro e w5 ⟨rfl, hb⟩; have HB5 := Lib.hid (HB.out.trans (hb.mono HB.out.size)); clear hb)
        go_ret
        exact ⟨(show Ending.returned (.string ⟨J.toArray⟩) = _ by rw [HV.out]), HB5.out⟩
  · have h16' : (16 : Int) < (cs.length : Int) := by omega
    have HR : Hid (T = []) := Lib.hid (by rw [HP.out]; simp [h16])
    go_enter Tryz.func63, Tryz.ntmps63
    go_wp2
    go_ret
    exact ⟨by rw [HR.out]; rfl, Below.refl _ _⟩
end Go.Proofs.YtnikhhbnbeljeaaGreatDoor.LB
