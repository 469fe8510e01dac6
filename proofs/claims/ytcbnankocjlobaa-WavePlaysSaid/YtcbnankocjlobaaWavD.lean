/- Package wave: perWave: a map of how many of each wave. -/
import Derived.Test.YtcbnankocjlobaaWavC
import Derived.Maps.OwnOps
import Derived.Maps.Views
set_option linter.unusedSimpArgs false
set_option linter.unusedVariables false
namespace Go.Proofs.Ytcbnankocjlobaa
open Go.ChangeShapes Go.WideShapes Go.ChangeAt Go.RowKit Go.Base Go.Maps

theorem lawI : Keyed Try.prog 3 := int_keyed Try.underlying3
theorem zeroI (w : World) : (zeroValue 3).run Try.prog w = .ok (.int .i64 0) w := by kernel_rfl
theorem wf_of {n : Int} (h : I64 n) : (Lit.int .i64 n).wf = true := WalkArith.wf_i64 ⟨h.1, h.2⟩
theorem grown_below {w w' : World} (h : Below w.heap.size w w') : w.grownBy w' none := ⟨h.os, h.tape, h.output, h.size, fun k hk _ => h.block k hk⟩
/-- The steps' waves are ints. -/
def WvOk (l : List Stp) : Prop := ∀ s ∈ l, I64 s.wv
theorem WvOk.at_ {l : List Stp} (h : WvOk l) {k : Nat} (hk : k < l.length) : I64 l[k].wv := h _ (List.getElem_mem _)
/-- The map says how many of each wave are what is asked. -/
def andW (p : Stp → Bool) (x : Int) (s : Stp) : Bool := p s && s.wv == x
structure PW (D : DataW Unit) (p : Stp → Bool) (l : List Stp) : Prop where
  map : IsMap D
  at_ : ∀ x : Int, D.atKey (.int .i64 x) (.lit (.int .i64 0)) = .lit (.int .i64 (cnt (andW p x) l : Nat))
  has : ∀ x : Int, Maps.has D (.int .i64 x) = decide (0 < cnt (andW p x) l)
theorem PW.empty (p : Stp → Bool) : PW (.map []) p [] := ⟨⟨_, rfl⟩, fun x => rfl, fun x => rfl⟩
theorem PW.skip {D : DataW Unit} {p : Stp → Bool} {l : List Stp} {s : Stp} (h : PW D p l) (hp : p s = false) : PW D p (l ++ [s]) := by
  have e : ∀ x, cnt (andW p x) (l ++ [s]) = cnt (andW p x) l := fun x => by rw [cnt_snoc]; simp [andW, hp]
  exact ⟨h.map, fun x => by rw [h.at_ x, e], fun x => by rw [h.has x, e]⟩
theorem PW.add {D : DataW Unit} {p : Stp → Bool} {l : List Stp} {s : Stp} (h : PW D p l) (hp : p s = true) {c : Int} (hc : D.atKey (.int .i64 s.wv) (.lit (.int .i64 0)) = .lit (.int .i64 c)) :
    PW (D.put (.int .i64 s.wv) (.lit (.int .i64 (c + 1)))) p (l ++ [s]) := by
  have hc2 : c = (cnt (andW p s.wv) l : Nat) := by
    have := h.at_ s.wv
    rw [hc] at this
    simpa using this
  refine ⟨h.map.put _ _, fun x => ?_, fun x => ?_⟩
  · by_cases e : x = s.wv
    · subst e
      rw [atKey_put_same (k := .int .i64 s.wv) h.map trivial, cnt_snoc, hc2]
      simp [andW, hp]
    · rw [atKey_put_other (fun h => e (by injection h)), h.at_ x, cnt_snoc]
      simp [andW, hp, show ¬ s.wv = x from fun h => e h.symm]
  · by_cases e : x = s.wv
    · subst e
      rw [has_put_same (k := .int .i64 s.wv) h.map trivial, cnt_snoc]
      simp [andW, hp]
    · rw [has_put_other (fun h => e (by injection h)), h.has x, cnt_snoc]
      simp [andW, hp, show ¬ s.wv = x from fun h => e h.symm]
def PwPost (p : Stp → Bool) (l : List Stp) (w : World) (e : Ending) (w' : World) : Prop :=
  ∃ b D, e = .returned (.map (some b)) ∧ w'.ownsMap Try.prog 3 (plainElem Try.prog 3) b l.length D ∧ PW D p l ∧ w.heap.size ≤ b ∧ Below w.heap.size w w'
set_option maxHeartbeats 4000000 in
set_option maxRecDepth 20000 in
theorem perWave_any (A : Option Addr) (l : List Stp) (c : Nat) (B : Option Addr) (fs : List Fnv) (d : Nat) (w : World) (hS : Stps w A l) (hm : l.length ≤ 2199023255552) (hw : WvOk l) (hF : Fns w B fs) (hfm : fs.length ≤ maxLen) :
    Calls Try.prog 31 #[.slice A l.length c, .slice B fs.length d] w (PwPost (allF fs) l w) := by
  have HS := Lib.hid hS
  have hm' : (l.length : Int) ≤ 9223372036854775807 := by omega
  have HI := Lib.hid (fun s V (hV : Below w.heap.size w V) => isAll_any s B fs d V (hF.later hV) hfm)
  have HW := Lib.hid hw
  have hmm := @run_makeMap Try.prog
  have HT : Hid (∀ k (hk : k < l.length), l.take (k + 1) = l.take k ++ [l[k]]) := Lib.hid (fun k hk => List.take_succ_eq_append_getElem hk)
  have HE : Hid (l.take l.length = l) := Lib.hid (by rw [List.take_length])
  clear hS hF hfm hw
  go_enter Try.func31, Try.ntmps31
  go_wp2
  go_loopw [11] (fun iv wr => ∃ (k : Nat) (D : DataW Unit), k ≤ l.length ∧ iv = .int .i64 (k : Int) ∧ wr.ownsMap Try.prog 3 (plainElem Try.prog 3) w.heap.size k D ∧ Hid (PW D (allF fs) (l.take k)) ∧ Hid (Below w.heap.size w wr)) (fun iv _ => l.length - (intOf iv).toNat)
  case atStart => exact ⟨0, _, Nat.zero_le _, rfl, World.ownsMap_made _ _ _ _, Lib.hid (PW.empty _), Lib.hid (below_alloc _ _)⟩
  case round =>
    obtain ⟨k, D, hk, rfl, hown, HP, HB⟩ := hrel
    have hbw : w.heap.size < wr.heap.size := hown.lt
    by_cases hlt : k < l.length
    · have hlt' : (k : Int) < (l.length : Int) := by omega
      have hk0 : (0 : Int) ≤ (k : Int) := by omega
      obtain ⟨b, o, rfl, hr⟩ := (HS.out.later HB.out) k hlt
      have HIk := Lib.hid (HI.out l[k])
      have HTk := Lib.hid (HT.out k hlt)
      have HWk := Lib.hid (wf_of (HW.out.at_ hlt))
      have hO := stC_one l[k]
      have HR := Lib.hid hr
      have hzC := stC_size l[k]
      have hL6 : Hid ((stC l[k]).toArray[6]? = some (.int .i64 l[k].wv)) := Lib.hid rfl
      clear hr
      generalize l[k] = s at *
      obtain ⟨L, hL⟩ : ∃ L, L = stC s := ⟨_, rfl⟩
      rw [← hL] at hO hzC HR HIk hL6
      have hszC : (Try.prog.info? 41).map (·.size) = some L.length := by rw [hzC]; exact szSt
      have hszA : (Try.prog.info? 41).map (·.size) = some L.toArray.size := by rw [List.size_toArray]; exact hszC
      have hsz1 : zSt.size = L.toArray.size := by rw [List.size_toArray]; exact hzC.symm
      clear hL
      have HSk := Lib.hid (fun (h : allF fs s = false) => by have := HP.out.skip h; rw [← HTk.out] at this; exact this)
      have HAd := Lib.hid (fun (h : allF fs s = true) (c : Int) (hc : D.atKey (.int .i64 s.wv) (.lit (.int .i64 0)) = .lit (.int .i64 c)) => by have := HP.out.add h hc; rw [← HTk.out] at this; exact this)
      have HCn := Lib.hid (fun (c : Int) (hc : D.atKey (.int .i64 s.wv) (.lit (.int .i64 0)) = .lit (.int .i64 c)) => (by
        have h1 := HP.out.at_ s.wv
        rw [hc] at h1
        have h2 : c = (cnt (andW (allF fs) s.wv) (l.take k) : Nat) := by simpa using h1
        have h3 := cnt_le (andW (allF fs) s.wv) (l.take k)
        rw [List.length_take] at h3
        omega : 0 ≤ c ∧ c ≤ 2199023255552))
      have hkey : keyOf Try.prog 3 (.int .i64 s.wv) = some (.int .i64 s.wv) := keyOf_int_mk Try.underlying3 HWk.out
      generalize allF fs s = q at *
      generalize s.wv = x at *
      cases q
      · have HP2 := Lib.hid (HSk.out rfl)
        go_wp2_with (first
          | (refine wpList_load_mid rfl 41 (.tmp 13) rfl b (o + k * 10) rfl L _ HR.out Try.underlying41 rfl hszC ?_)
          | (refine wpList_store_new rfl 41 (.tmp 7) (.tmp 14) rfl wr.heap.size L.toArray rfl rfl 41 zSt (heap_new wr _) hszA hsz1 hO ?_; intro w2 hs2 hb2 hg2 ho2; have HB2 := Lib.hid (hb2 w.heap.size w (HB.out.trans ((below_alloc wr _).mono HB.out.size)) HB.out.size); have HG2 := Lib.hid (hb2 wr.heap.size wr (below_alloc wr _) (Nat.le_refl _)); clear hs2 hb2 ho2)
          | (refine wpList_load_row rfl 41 (.tmp 7) rfl wr.heap.size rfl 41 L.toArray (0, 0) _ hg2 Try.underlying41 rfl hszA ?_)
          | (go_at_call 32; refine (HIk.out _ HB2.out).mono ?_; rintro e w3 ⟨rfl, hb3⟩; have HB3 := Lib.hid (HB2.out.trans (hb3.mono HB2.out.size)); have HG3 := Lib.hid (HG2.out.trans (hb3.mono HG2.out.size)); clear hb3)
          | go_in)
        go_roundw
        case rel => exact ⟨k + 1, D, by omega, by go_num, (hown.kept (grown_below HG3.out) (by simp)).mono (by omega), HP2, HB3⟩
        case measure => simp [intOf]; omega
      · have HA2 := Lib.hid (HAd.out rfl)
        clear HAd HSk
        go_wp2_with (first
          | (refine wpList_load_mid rfl 41 (.tmp 13) rfl b (o + k * 10) rfl L _ HR.out Try.underlying41 rfl hszC ?_)
          | (refine wpList_store_new rfl 41 (.tmp 7) (.tmp 14) rfl wr.heap.size L.toArray rfl rfl 41 zSt (heap_new wr _) hszA hsz1 hO ?_; intro w2 hs2 hb2 hg2 ho2; have HB2 := Lib.hid (hb2 w.heap.size w (HB.out.trans ((below_alloc wr _).mono HB.out.size)) HB.out.size); have HG2 := Lib.hid (hb2 wr.heap.size wr (below_alloc wr _) (Nat.le_refl _)); have hz2 : wr.heap.size < w2.heap.size := (by rw [hs2]; simp); clear hs2 hb2 ho2)
          | (refine wpList_load_row rfl 41 (.tmp 7) rfl wr.heap.size rfl 41 L.toArray (0, 0) _ hg2 Try.underlying41 rfl hszA ?_)
          | (go_at_call 32; refine (HIk.out _ HB2.out).mono ?_; rintro e w3 ⟨rfl, hb3⟩; have HB3 := Lib.hid (HB2.out.trans (hb3.mono HB2.out.size)); have HG3 := Lib.hid (HG2.out.trans (hb3.mono HG2.out.size)); have c6 := (cell_of_row w3 wr.heap.size 6 _ _ _ ((hb3.block _ hz2).trans hg2)).trans hL6.out; clear hb3; have hown3 := hown.kept (grown_below HG3.out) (by simp))
          | (at_lookup; refine wpList_lookup_own_int _ rfl _ _ 58 rfl 3 3 .i64 lawI Try.underlying58 Try.underlying3 (zeroI _) w.heap.size k _ rfl hown3 _ _ rfl hkey ?_; intro c hat hwc; have HD := Lib.hid (HA2.out c hat); obtain ⟨hc1, hc2⟩ := HCn.out c hat)
          | (at_mapUpdate; refine wpList_mapUpdate_own _ rfl _ _ _ 58 rfl 3 3 lawI Try.underlying58 _ w.heap.size k _ rfl hown3 (by unfold maxLen; omega) _ _ _ rfl rfl hkey (.lit (.int .i64 (c + 1))) [] (plainElem_int Try.underlying3 (wf_of ⟨by omega, by omega⟩)) ?_; intro w4 hown4 hgrow4)
          | go_in)
        go_roundw
        case rel => exact ⟨k + 1, _, by omega, by go_num, hown4, HD, Lib.hid (HB3.out.grown hgrow4 HB3.out.size (fun j hj => by cases hj; exact Nat.le_refl _))⟩
        case measure => simp [intOf]; omega
    · obtain rfl : k = l.length := by omega
      clear hlt
      have HP2 := HP.out
      rw [HE.out] at HP2
      go_wp2
      go_ret
      exact ⟨_, D, rfl, hown, HP2, Nat.le_refl _, HB.out⟩
end Go.Proofs.Ytcbnankocjlobaa
