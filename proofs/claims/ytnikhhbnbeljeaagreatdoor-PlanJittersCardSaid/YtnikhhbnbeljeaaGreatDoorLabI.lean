/- Walks of package label: clauses written. -/
import Derived.Test.YtnikhhbnbeljeaaGreatDoorLabA
import Derived.Test.YtnikhhbnbeljeaaGreatDoorBase
import Derived.Test.YtnikhhbnbeljeaaGreatDoorLabB
import Derived.Test.YtnikhhbnbeljeaaGreatDoorOpen
import Derived.Test.YtnikhhbnbeljeaaGreatDoorLabC
import Derived.Test.YtnikhhbnbeljeaaGreatDoorLabG
import Derived.Test.YtnikhhbnbeljeaaGreatDoorJoin
import Derived.Test.YtnikhhbnbeljeaaGreatDoorProg
import Derived.PlainAid
import Derived.WalkKit
import Derived.Handy
import Derived.ProofKit
import Derived.OpenShut
import Derived.Deep.DeepHandedRow
import Derived.Lib.Hide
import Derived.Laws.Tables
import Derived.Carry
import Derived.Outline
import Derived.WalkSmall
import Derived.WalkSpells
import Derived.WalkLawsBesides
import Derived.SliceStrings
import Derived.Laws.AppendOwn
import Derived.Laws.Rows
import Derived.BigQuiet
import Derived.Deep.QuietTactic
import Derived.Laws.EntriesVeiled
import Derived.Shelf.Strings.OnBuilder
import Derived.Deep.RegionHeld3
set_option linter.unusedSimpArgs false
set_option linter.unusedVariables false
namespace Go.Proofs.YtnikhhbnbeljeaaGreatDoor.LB
open Go.ChangeShapes Go.WideShapes Go.ChangeAt Go.RowKit Go.Base Go.Lab

abbrev manV (f : Nat) (a s t : Bytes) (v : Bool) : Value := .agg #[.func (.func f) #[] #[], strV a, strV s, strV t, .bool v]
def takesB (v : Bool) (n : Nat) : Bool := if v then decide (1 ≤ n) && decide (n ≤ 16) else n == 0
set_option maxHeartbeats 1000000 in
theorem takes_any (f : Nat) (a s t : Bytes) (v : Bool) (n : Nat) (w : World) :
    Calls Tryz.prog 117 #[manV f a s t v, .int .i64 n] w fun e w' => e = .returned (.bool (takesB v n)) ∧ Below w.heap.size w w' := by
  cases v
  · have HT : Hid (takesB false n = ((n : Int) == 0)) := Lib.hid (by unfold takesB; rw [if_neg (by decide), Bool.eq_iff_iff]; simp)
    rw [HT.out]
    go_enter Tryz.func117, Tryz.ntmps117
    go_wp2
    go_ret
    exact ⟨rfl, below_alloc _ _⟩
  · by_cases h1 : 1 ≤ n
    · have h1' : (1 : Int) ≤ (n : Int) := by omega
      have HT : Hid (takesB true n = decide ((n : Int) ≤ 16)) := Lib.hid (by unfold takesB; rw [if_pos rfl, Bool.eq_iff_iff]; simp; omega)
      rw [HT.out]
      go_enter Tryz.func117, Tryz.ntmps117
      go_wp2
      go_ret
      exact ⟨rfl, below_alloc _ _⟩
    · have h1' : (n : Int) < 1 := by omega
      have HT : Hid (takesB true n = false) := Lib.hid (by unfold takesB; rw [if_pos rfl]; simp; omega)
      rw [HT.out]
      clear h1
      go_enter Tryz.func117, Tryz.ntmps117
      go_wp2
      go_ret
      exact ⟨rfl, below_alloc _ _⟩
def soundB (c : Cl) : Bool := c.vals.all valB && wordB c.key
set_option maxHeartbeats 2000000 in
theorem sound_any (c : Cl) (w : World) (hc : c.Fit w) (hv : ∀ x ∈ c.vals, x.length ≤ maxLen) :
    Calls Tryz.prog 118 #[clV c] w fun e w' => e = .returned (.bool (soundB c)) ∧ Below w.heap.size w w' := by
  have HV := Lib.hid hc.v
  have HX := Lib.hid hv
  have hm := hc.m
  have HW := Lib.hid (fun w => word_l c.key hc.k w)
  have HS : Hid (soundB c = (c.vals.all valB && wordB c.key)) := Lib.hid rfl
  generalize wordB c.key = q at *
  generalize hr : soundB c = r at *
  clear hr hc hv
  obtain ⟨kind, key, la, vals, lc⟩ := c
  simp only at HV HX hm HW HS
  unfold maxLen at hm
  have hm' : (vals.length : Int) ≤ 9223372036854775807 := by omega
  have HC := Lib.hid (cells_of_heap (heap_new w (.cells #[.int .i64 kind, strV key, .slice la vals.length lc] 95))).1
  have HB := Lib.hid (below_alloc w (.cells #[.int .i64 kind, strV key, .slice la vals.length lc] 95))
  clear hm
  go_enter Tryz.func118, Tryz.ntmps118
  go_wp2
  have c1 := HC.out 1
  have HV' := Lib.hid (HV.out.later HB.out)
  generalize w.alloc (.cells #[.int .i64 kind, strV key, .slice la vals.length lc] 95) = W at *
  go_loop [4, 8] (fun _ i => ∃ k : Nat, k ≤ vals.length ∧ i = .int .i64 (k : Int) ∧ Hid (∀ x ∈ vals.take k, valB x = true)) (fun _ i => vals.length - (intOf i).toNat)
  case atStart => exact ⟨0, Nat.zero_le _, rfl, Lib.hid (by simp)⟩
  case round =>
    obtain ⟨k, hk, rfl, HF⟩ := hrel
    by_cases hlt : k < vals.length
    · have hlt' : (k : Int) < (vals.length : Int) := by omega
      have hk0 : (0 : Int) ≤ (k : Int) := by omega
      obtain ⟨b, o, rfl, c0, _⟩ := HV'.out k hlt
      have HT := Lib.hid (take_memS (p := fun x => valB x = true) hlt HF.out)
      have HG : Hid (valB vals[k] = false → r = false) := Lib.hid (fun h => by
        rw [HS.out, List.all_eq_false.2 ⟨vals[k], List.getElem_mem _, by rw [h]; decide⟩]; rfl)
      have HL := Lib.hid (fun w => val_l vals[k] (HX.out _ (List.getElem_mem _)) w)
      generalize hvb : valB vals[k] = b1 at *
      clear hvb
      generalize vals[k] = x at *
      cases b1
      · have HR : Hid (r = false) := Lib.hid (HG.out (by first | rfl | trivial))
        go_wp2_with (go_at_call 174; refine (HL.out _).mono ?_; rintro e w1 ⟨rfl, rfl⟩)
        go_ret
        exact ⟨ret_bool HR.out.symm, HB.out⟩
      · have HT2 := Lib.hid (HT.out (by first | rfl | trivial))
        go_wp2_with (go_at_call 174; refine (HL.out _).mono ?_; rintro e w1 ⟨rfl, rfl⟩)
        go_round
        case rel => exact ⟨k + 1, by omega, by go_num, HT2⟩
        case measure => simp [intOf]; omega
    · obtain rfl : k = vals.length := by omega
      have HR : Hid (r = q) := Lib.hid (by rw [HS.out, List.all_eq_true.2 (fun x hx => HF.out x (by rw [List.take_length]; exact hx)), Bool.true_and])
      go_wp2_with (go_at_call 51; refine (HW.out _).mono ?_; rintro e w1 ⟨rfl, rfl⟩)
      go_ret
      exact ⟨ret_bool HR.out.symm, HB.out⟩

/-- How a clause is written: plain, of one value, of many. -/
def oneT (a s t : Bytes) (v : Bool) (key : Bytes) (vals : List Bytes) : Bytes :=
  if v = false then a ++ key else match vals with
  | [x] => key ++ s ++ x
  | _ => key ++ t ++ [40] ++ Lib.join vals [44] ++ [41]
theorem ba_add (a b : Bytes) : ((⟨a.toArray⟩ : ByteArray) ++ (⟨b.toArray⟩ : ByteArray)) = ⟨(a ++ b).toArray⟩ := by apply ByteArray.ext; simp
set_option maxHeartbeats 2000000 in
theorem write_plain (f : Nat) (a s t : Bytes) (c : Cl) (w : World) (ha : a.length ≤ 10) (hk : c.key.length ≤ 32) :
    Calls Tryz.prog 119 #[manV f a s t false, clV c] w fun e w' => e = .returned (strV (oneT a s t false c.key c.vals)) ∧ Below w.heap.size w w' := by
  obtain ⟨kind, key, la, vals, lc⟩ := c
  have HO : Hid (oneT a s t false key vals = a ++ key) := Lib.hid (by unfold oneT; simp)
  have hs : (⟨a.toArray⟩ : ByteArray).size ≤ 10 := by simpa [ByteArray.size] using ha
  have hs2 : (⟨key.toArray⟩ : ByteArray).size ≤ 32 := by simpa [ByteArray.size] using hk
  go_enter Tryz.func119, Tryz.ntmps119
  go_wp2
  go_ret
  refine ⟨?_, (below_alloc w _).alloc (by simp) _⟩
  show Ending.returned (.string ((⟨a.toArray⟩ : ByteArray) ++ ⟨key.toArray⟩)) = _
  rw [HO.out, ba_add]
set_option maxHeartbeats 4000000 in
theorem write_one (f : Nat) (a s t : Bytes) (kind : Int) (key : Bytes) (la : Option Addr) (x : Bytes) (lc : Nat) (w : World) (hs : s.length ≤ 10) (hk : key.length ≤ 32) (hx : x.length ≤ 32) (hv : Strs w la [x]) :
    Calls Tryz.prog 119 #[manV f a s t true, .agg #[.int .i64 kind, strV key, .slice la 1 lc]] w fun e w' => e = .returned (strV (oneT a s t true key [x])) ∧ Below w.heap.size w w' := by
  have HO : Hid (oneT a s t true key [x] = key ++ s ++ x) := Lib.hid (by unfold oneT; simp)
  have hs1 : (⟨s.toArray⟩ : ByteArray).size ≤ 10 := by simpa [ByteArray.size] using hs
  have hs2 : (⟨key.toArray⟩ : ByteArray).size ≤ 32 := by simpa [ByteArray.size] using hk
  have hs3 : (⟨x.toArray⟩ : ByteArray).size ≤ 32 := by simpa [ByteArray.size] using hx
  obtain ⟨b, o, rfl, hc, _⟩ := hv 0 (by simp)
  simp only [List.getElem_cons_zero, Nat.add_zero] at hc
  have hlt := World.block_lt_of_cell? w _ hc
  simp only at hlt
  have hlt2 : b < w.heap.size + 1 := by omega
  go_enter Tryz.func119, Tryz.ntmps119
  go_wp2
  go_quiet (fail)
  go_wp2
  go_ret
  refine ⟨?_, below_drewN ((below_alloc w _).alloc (by simp) _) _⟩
  show Ending.returned (.string (((⟨key.toArray⟩ : ByteArray) ++ ⟨s.toArray⟩) ++ ⟨x.toArray⟩)) = _
  rw [HO.out, ba_add, ba_add]
set_option maxHeartbeats 4000000 in
theorem write_many (f : Nat) (a s t : Bytes) (kind : Int) (key : Bytes) (la : Option Addr) (vals : List Bytes) (lc : Nat) (w : World) (ht : t.length ≤ 10) (hk : key.length ≤ 32) (hn : 2 ≤ vals.length) (hn16 : vals.length ≤ 16) (hx : ∀ x ∈ vals, x.length ≤ 32) (hv : Strs w la vals) (hcap : vals.length ≤ lc) :
    Calls Tryz.prog 119 #[manV f a s t true, .agg #[.int .i64 kind, strV key, .slice la vals.length lc]] w fun e w' => e = .returned (strV (oneT a s t true key vals)) ∧ Below w.heap.size w w' := by
  have hjl : (Lib.join vals [44]).length ≤ 600 := by
    have := join_le 32 [44] vals hx
    simp only [List.length_cons, List.length_nil] at this
    omega
  have HO : Hid (oneT a s t true key vals = key ++ t ++ [40] ++ Lib.join vals [44] ++ [41]) := Lib.hid (by
    unfold oneT
    rw [if_neg (by decide)]
    match vals, hn with
    | x :: y :: r, _ => rfl)
  have hs1 : (⟨t.toArray⟩ : ByteArray).size ≤ 10 := by simpa [ByteArray.size] using ht
  have hs2 : (⟨key.toArray⟩ : ByteArray).size ≤ 32 := by simpa [ByteArray.size] using hk
  obtain ⟨b, o, rfl, hc, hvl⟩ := hv 0 (by omega)
  have hlt := World.block_lt_of_cell? w _ hc
  simp only at hlt
  have hmap : (vals.map fun x => (⟨x.toArray⟩ : ByteArray)).map (·.data.toList) = vals := by rw [List.map_map]; simp [Function.comp_def]
  have HJ0 : Hid (∀ V : World, Below w.heap.size w V → Calls Tryz.prog 96 #[.slice (some ⟨b, o, none⟩) vals.length lc, .string ⟨#[44]⟩] V fun e w' => e = .returned (.string ⟨(Lib.join vals [44]).toArray⟩) ∧ Below V.heap.size V w') := Lib.hid (fun V hb => by
    have := join_any b o lc (vals.map fun x => (⟨x.toArray⟩ : ByteArray)) ⟨#[44]⟩ V (fun j y hj => by
      rw [List.getElem?_map] at hj
      cases hg : vals[j]? with
      | none => rw [hg] at hj; cases hj
      | some z =>
        rw [hg] at hj
        injection hj with hj; subst hj
        obtain ⟨hjl, rfl⟩ := List.getElem?_eq_some_iff.1 hg
        obtain ⟨b', o', e', c', _⟩ := (hv.later hb) j hjl
        injection e' with e'; injection e' with e1 e2 _; subst e1; subst e2
        exact c') (by have := hb.size; omega) (by simp; omega) (by simpa using hcap) (by rw [hmap]; show (Lib.join vals [44]).length ≤ _; omega)
    rw [hmap, List.length_map] at this
    exact this)
  have hne : ((vals.length : Int) == 1) = false := by rw [beq_eq_false_iff_ne]; omega
  generalize hJ : Lib.join vals [44] = J at *
  have hs3 : (⟨J.toArray⟩ : ByteArray).size ≤ 600 := by simpa [ByteArray.size] using hjl
  have HB0 := Lib.hid ((below_alloc w (.cells #[.func (.func f) #[] #[], strV a, strV s, strV t, .bool true] 153)).alloc (by simp) (.cells #[.int .i64 kind, strV key, .slice (some ⟨b, o, none⟩) vals.length lc] 95))
  have hW : ∀ W0 : World, W0 = (w.alloc (.cells #[.func (.func f) #[] #[], strV a, strV s, strV t, .bool true] 153)).alloc (.cells #[.int .i64 kind, strV key, .slice (some ⟨b, o, none⟩) vals.length lc] 95) → W0.cell? ⟨w.heap.size, 3, none⟩ = some (strV t) ∧ W0.cell? ⟨w.heap.size + 1, 1, none⟩ = some (strV key) ∧ W0.cell? ⟨w.heap.size + 1, 2, none⟩ = some (.slice (some ⟨b, o, none⟩) vals.length lc) ∧ (w.heap.size < W0.heap.size ∧ w.heap.size + 1 < W0.heap.size) := by
    rintro W0 rfl
    obtain ⟨f1, _⟩ := cells_of_heap (heap_old (.cells #[.int .i64 kind, strV key, .slice (some ⟨b, o, none⟩) vals.length lc] 95) (by simp) (heap_new w (.cells #[.func (.func f) #[] #[], strV a, strV s, strV t, .bool true] 153)))
    have h2 := heap_new (w.alloc (.cells #[.func (.func f) #[] #[], strV a, strV s, strV t, .bool true] 153)) (.cells #[.int .i64 kind, strV key, .slice (some ⟨b, o, none⟩) vals.length lc] 95)
    simp only [World.size_alloc] at h2
    obtain ⟨f2, _⟩ := cells_of_heap h2
    exact ⟨f1 3, f2 1, f2 2, by simp only [World.size_alloc]; omega, by simp only [World.size_alloc]; omega⟩
  have n1 : ¬ (9223372036854775807 < key.length + t.length) := by omega
  have n2 : ¬ (9223372036854775807 < key.length + t.length + 1) := by omega
  have n3 : ¬ (9223372036854775807 < key.length + t.length + 1 + J.length) := by omega
  have n4 : ¬ (9223372036854775807 < key.length + t.length + 1 + J.length + 1) := by omega
  clear hvl hjl hx hv hc hlt hmap hcap hn hJ
  go_enter Tryz.func119, Tryz.ntmps119
  go_wp2
  obtain ⟨c3, d1, d2, hz⟩ := hW _ rfl
  have HZ := Lib.hid hz
  have HJ : Hid (∀ V : World, Below ((w.alloc (.cells #[.func (.func f) #[] #[], strV a, strV s, strV t, .bool true] 153)).alloc (.cells #[.int .i64 kind, strV key, .slice (some ⟨b, o, none⟩) vals.length lc] 95)).heap.size ((w.alloc (.cells #[.func (.func f) #[] #[], strV a, strV s, strV t, .bool true] 153)).alloc (.cells #[.int .i64 kind, strV key, .slice (some ⟨b, o, none⟩) vals.length lc] 95)) V → Calls Tryz.prog 96 #[.slice (some ⟨b, o, none⟩) vals.length lc, .string ⟨#[44]⟩] V fun e w' => e = .returned (.string ⟨J.toArray⟩) ∧ Below V.heap.size V w') := Lib.hid (fun V h => HJ0.out V (HB0.out.trans (h.mono HB0.out.size)))
  clear hW HJ0 hz
  generalize (w.alloc (.cells #[.func (.func f) #[] #[], strV a, strV s, strV t, .bool true] 153)).alloc (.cells #[.int .i64 kind, strV key, .slice (some ⟨b, o, none⟩) vals.length lc] 95) = W at *
  refine wp_region_held_drew (S := (fun w' => w'.cell? ⟨w.heap.size, 3, none⟩ = some (strV t) ∧ w'.cell? ⟨w.heap.size + 1, 1, none⟩ = some (strV key) ∧ w'.cell? ⟨w.heap.size + 1, 2, none⟩ = some (.slice (some ⟨b, o, none⟩) vals.length lc) ∧ Below W.heap.size W w')) (by kernel_rfl) ⟨c3, d1, d2, (Below.refl _ _).drew⟩ (fun hHeld => ?_)
  refine wpAnyH_take (i := 0) (v := ?vv1) rfl (by kernel_rfl) (by kernel_rfl) (by kernel_rfl) (fun _ _ _ h => h) (Or.inl ⟨by rfl, ?hy1⟩) hHeld ?rr1
  case hy1 => (intro w' hSw; obtain ⟨g0, g1, g2, g3⟩ := hSw; go_simp; try with_reducible rfl)
  try simp only [Act.put, List.setIfInBounds_toArray, List.set_cons_zero, List.set_cons_succ, List.getElem_toArray, List.getElem_cons_succ, List.getElem_cons_zero]
  refine wpAnyH_take (i := 1) (v := ?vv2) rfl (by kernel_rfl) (by kernel_rfl) (by kernel_rfl) (fun _ _ _ h => h) (Or.inl ⟨by rfl, ?hy2⟩) hHeld ?rr2
  case hy2 => (intro w' hSw; obtain ⟨g0, g1, g2, g3⟩ := hSw; go_simp; try with_reducible rfl)
  try simp only [Act.put, List.setIfInBounds_toArray, List.set_cons_zero, List.set_cons_succ, List.getElem_toArray, List.getElem_cons_succ, List.getElem_cons_zero]
  refine wpAnyH_take (i := 2) (v := ?vv3) rfl (by kernel_rfl) (by kernel_rfl) (by kernel_rfl) (fun _ _ _ h => h) (Or.inl ⟨by rfl, ?hy3⟩) hHeld ?rr3
  case hy3 => (intro w' hSw; obtain ⟨g0, g1, g2, g3⟩ := hSw; go_simp; try with_reducible rfl)
  try simp only [Act.put, List.setIfInBounds_toArray, List.set_cons_zero, List.set_cons_succ, List.getElem_toArray, List.getElem_cons_succ, List.getElem_cons_zero]
  refine wpAnyH_take (i := 3) (v := ?vv4) rfl (by kernel_rfl) (by kernel_rfl) (by kernel_rfl) (fun _ _ _ h => h) (Or.inl ⟨by rfl, ?hy4⟩) hHeld ?rr4
  case hy4 => (intro w' hSw; obtain ⟨g0, g1, g2, g3⟩ := hSw; go_simp; try with_reducible rfl)
  try simp only [Act.put, List.setIfInBounds_toArray, List.set_cons_zero, List.set_cons_succ, List.getElem_toArray, List.getElem_cons_succ, List.getElem_cons_zero]
  refine wpAnyH_take (i := 4) (v := ?vv5) rfl (by kernel_rfl) (by kernel_rfl) (by kernel_rfl) (fun _ _ _ h => h) (Or.inl ⟨by rfl, ?hy5⟩) hHeld ?rr5
  case hy5 => (intro w' hSw; obtain ⟨g0, g1, g2, g3⟩ := hSw; go_simp; try with_reducible rfl)
  try simp only [Act.put, List.setIfInBounds_toArray, List.set_cons_zero, List.set_cons_succ, List.getElem_toArray, List.getElem_cons_succ, List.getElem_cons_zero]
  refine wpAnyH_take (i := 5) (v := ?vv6) rfl (by kernel_rfl) (by kernel_rfl) (by kernel_rfl) (fun _ _ _ h => h) (Or.inl ⟨by rfl, ?hy6⟩) hHeld ?rr6
  case hy6 => (intro w' hSw; obtain ⟨g0, g1, g2, g3⟩ := hSw; go_simp; try with_reducible rfl)
  try simp only [Act.put, List.setIfInBounds_toArray, List.set_cons_zero, List.set_cons_succ, List.getElem_toArray, List.getElem_cons_succ, List.getElem_cons_zero]
  refine wpAnyH_take (i := 6) (v := ?vv7) rfl (by kernel_rfl) (by kernel_rfl) (by kernel_rfl) (fun _ _ _ h => h) (Or.inl ⟨by rfl, ?hy7⟩) hHeld ?rr7
  case hy7 => (intro w' hSw; obtain ⟨g0, g1, g2, g3⟩ := hSw; go_simp; try with_reducible rfl)
  try simp only [Act.put, List.setIfInBounds_toArray, List.set_cons_zero, List.set_cons_succ, List.getElem_toArray, List.getElem_cons_succ, List.getElem_cons_zero]
  refine wpAnyH_take (i := 7) (v := ?vv8) rfl (by kernel_rfl) (by kernel_rfl) (by kernel_rfl) (fun _ _ _ h => h) (Or.inl ⟨by rfl, ?hy8⟩) hHeld ?rr8
  case hy8 => (intro w' hSw; obtain ⟨g0, g1, g2, g3⟩ := hSw; go_simp; try with_reducible rfl)
  try simp only [Act.put, List.setIfInBounds_toArray, List.set_cons_zero, List.set_cons_succ, List.getElem_toArray, List.getElem_cons_succ, List.getElem_cons_zero]
  refine wpAnyH_ready (rs := [8]) (by kernel_rfl) (by simp) ?_
  refine AllReadyH.cons rfl (fun K hK => ?_) AllReadyH.nil
  go_simp
  go_at_call 96
  refine Calls.mono (by with_reducible exact HJ.out _ hHeld.2.2.2) ?_
  rintro e w3 ⟨rfl, hb⟩
  have hb3 := hHeld.2.2.2.trans (hb.mono hHeld.2.2.2.size)
  clear hb
  go_wp2_with fail
  refine hK.out _ _ ⟨(hb3.cell (p := ⟨w.heap.size, 3, none⟩) HZ.out.1).trans c3, (hb3.cell (p := ⟨w.heap.size + 1, 1, none⟩) HZ.out.2).trans d1, (hb3.cell (p := ⟨w.heap.size + 1, 2, none⟩) HZ.out.2).trans d2, hb3⟩ (fun hHeld2 => ?_)
  clear hK K hHeld
  have hHeld := hHeld2
  clear hHeld2
  try simp only [Act.put, List.setIfInBounds_toArray, List.set_cons_zero, List.set_cons_succ, List.getElem_toArray, List.getElem_cons_succ, List.getElem_cons_zero]
  refine wpAnyH_take (i := 9) (v := ?vv10) rfl (by kernel_rfl) (by kernel_rfl) (by kernel_rfl) (fun _ _ _ h => h) (Or.inl ⟨by rfl, ?hy10⟩) hHeld ?rr10
  case hy10 => (intro w' hSw; obtain ⟨g0, g1, g2, g3⟩ := hSw; go_simp; try with_reducible rfl)
  try simp only [Act.put, List.setIfInBounds_toArray, List.set_cons_zero, List.set_cons_succ, List.getElem_toArray, List.getElem_cons_succ, List.getElem_cons_zero]
  refine wpAnyH_take (i := 10) (v := ?vv11) rfl (by kernel_rfl) (by kernel_rfl) (by kernel_rfl) (fun _ _ _ h => h) (Or.inl ⟨by rfl, ?hy11⟩) hHeld ?rr11
  case hy11 => (intro w' hSw; obtain ⟨g0, g1, g2, g3⟩ := hSw; go_simp; try with_reducible rfl)
  try simp only [Act.put, List.setIfInBounds_toArray, List.set_cons_zero, List.set_cons_succ, List.getElem_toArray, List.getElem_cons_succ, List.getElem_cons_zero]
  refine wpAnyH_take (i := 11) (v := ?vv12) rfl (by kernel_rfl) (by kernel_rfl) (by kernel_rfl) (fun _ _ _ h => h) (Or.inl ⟨by rfl, ?hy12⟩) hHeld ?rr12
  case hy12 => (intro w' hSw; obtain ⟨g0, g1, g2, g3⟩ := hSw; go_simp; try with_reducible rfl)
  try simp only [Act.put, List.setIfInBounds_toArray, List.set_cons_zero, List.set_cons_succ, List.getElem_toArray, List.getElem_cons_succ, List.getElem_cons_zero]
  have HBe := Lib.hid hHeld.2.2.2
  refine wpAnyH_done (by kernel_rfl) ?_ _
  clear hHeld
  go_wp2
  go_ret
  refine ⟨?_, HB0.out.trans (HBe.out.mono HB0.out.size)⟩
  show Ending.returned (.string (((((⟨key.toArray⟩ : ByteArray) ++ ⟨t.toArray⟩) ++ ⟨#[40]⟩) ++ ⟨J.toArray⟩) ++ ⟨#[41]⟩)) = _
  rw [HO.out, show (⟨#[40]⟩ : ByteArray) = ⟨([40] : Bytes).toArray⟩ from rfl, show (⟨#[41]⟩ : ByteArray) = ⟨([41] : Bytes).toArray⟩ from rfl, ba_add, ba_add, ba_add, ba_add]
end Go.Proofs.YtnikhhbnbeljeaaGreatDoor.LB
