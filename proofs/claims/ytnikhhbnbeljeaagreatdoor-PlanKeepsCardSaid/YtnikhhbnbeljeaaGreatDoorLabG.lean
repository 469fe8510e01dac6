/- Walks of package label: clauses asked of labels. -/
import Derived.Test.YtnikhhbnbeljeaaGreatDoorLabA
import Derived.Test.YtnikhhbnbeljeaaGreatDoorBase
import Derived.Test.YtnikhhbnbeljeaaGreatDoorOpen
import Derived.Test.YtnikhhbnbeljeaaGreatDoorMoved
import Derived.Test.YtnikhhbnbeljeaaGreatDoorLabC
import Derived.Test.YtnikhhbnbeljeaaGreatDoorProg
import Derived.PlainAid
import Derived.WalkKit
import Derived.Handy
import Derived.ProofKit
import Derived.OpenShut
import Derived.Deep.DeepHandedRow
import Derived.Lib.Hide
import Derived.Laws.Tables
import Derived.Carry
import Derived.Outline
import Derived.WalkSmall
import Derived.WalkSpells
import Derived.WalkLawsBesides
import Derived.SliceStrings
import Derived.Laws.AppendOwn
import Derived.Laws.Rows
import Derived.BigQuiet
import Derived.Deep.QuietTactic
import Derived.Laws.EntriesVeiled
set_option linter.unusedSimpArgs false
set_option linter.unusedVariables false
namespace Go.Proofs.YtnikhhbnbeljeaaGreatDoor.LB
open Go.ChangeShapes Go.WideShapes Go.ChangeAt Go.RowKit Go.Base Go.Lab

def hasS (l : List Bytes) (v : Bytes) : Bool := l.contains v
theorem idx_at {l : List Bytes} {k : Nat} {v : Bytes} (hk : k < l.length) (h : ∀ x ∈ l.take k, (v == x) = false) (he : (v == l[k]) = true) : hasS l v = true := by
  unfold hasS
  rw [List.contains_iff_mem]
  rw [eq_of_beq he]; exact List.getElem_mem hk
theorem idx_no {l : List Bytes} {v : Bytes} (h : ∀ x ∈ l, (v == x) = false) : hasS l v = false := by
  unfold hasS
  cases hc : l.contains v
  · rfl
  · have := h v (List.contains_iff_mem.1 hc); simp at this
theorem take_memS {l : List Bytes} {k : Nat} (hk : k < l.length) {p : Bytes → Prop} (h : ∀ x ∈ l.take k, p x) (h2 : p l[k]) : ∀ x ∈ l.take (k + 1), p x := by
  intro x hx
  rw [List.take_succ_eq_append_getElem hk, List.mem_append, List.mem_singleton] at hx
  rcases hx with hx | rfl
  · exact h x hx
  · exact h2
def IdxPost (l : List Bytes) (v : Bytes) (w : World) (e : Ending) (w' : World) : Prop := ∃ i : Int, e = .returned (.int .i64 i) ∧ decide (0 ≤ i) = hasS l v ∧ Below w.heap.size w w'
set_option maxHeartbeats 2000000 in
theorem index_any (A : Option Addr) (l : List Bytes) (c : Nat) (v : Bytes) (w : World) (hL : Strs w A l) (hm : l.length ≤ maxLen) :
    Calls Tryz.prog 169 #[.slice A l.length c, strV v] w (IdxPost l v w) := by
  have HL := Lib.hid hL
  unfold maxLen at hm
  have hm' : (l.length : Int) ≤ 9223372036854775807 := by omega
  clear hL hm
  go_enter Tryz.func169, Tryz.ntmps169
  go_wp2
  go_loop [5, 8] (fun _ i => ∃ k : Nat, k ≤ l.length ∧ i = .int .i64 (k : Int) ∧ Hid (∀ x ∈ l.take k, (v == x) = false)) (fun _ i => l.length - (intOf i).toNat)
  case atStart => exact ⟨0, Nat.zero_le _, rfl, Lib.hid (by simp)⟩
  case round =>
    obtain ⟨k, hk, rfl, HF⟩ := hrel
    by_cases hlt : k < l.length
    · have hlt' : (k : Int) < (l.length : Int) := by omega
      have hk0 : (0 : Int) ≤ (k : Int) := by omega
      obtain ⟨b, o, rfl, c0, _⟩ := HL.out k hlt
      have HT := Lib.hid (take_memS (p := fun x => (v == x) = false) hlt HF.out)
      have HG := Lib.hid (idx_at (v := v) hlt HF.out)
      generalize l[k] = x at *
      cases he : (v == x)
      · have HT2 := Lib.hid (HT.out he)
        clear HT HG
        go_wp2
        go_round
        case rel => exact ⟨k + 1, by omega, by go_num, HT2⟩
        case measure => simp [intOf]; omega
      · have HG2 := Lib.hid (HG.out he)
        clear HT HG
        go_wp2
        go_ret
        exact ⟨k, rfl, by rw [HG2.out]; simp, Below.refl _ _⟩
    · obtain rfl : k = l.length := by omega
      have HG : Hid (hasS l v = false) := Lib.hid (idx_no (fun x hx => HF.out x (by rw [List.take_length]; exact hx)))
      go_wp2
      go_ret
      exact ⟨-1, rfl, by rw [HG.out]; rfl, Below.refl _ _⟩
set_option maxHeartbeats 1000000 in
theorem contains_any (A : Option Addr) (l : List Bytes) (c : Nat) (v : Bytes) (w : World) (hL : Strs w A l) (hm : l.length ≤ maxLen) :
    Calls Tryz.prog 114 #[.slice A l.length c, strV v] w fun e w' => e = .returned (.bool (hasS l v)) ∧ Below w.heap.size w w' := by
  have HC := Lib.hid (index_any A l c v w hL hm)
  clear hL
  go_enter Tryz.func114, Tryz.ntmps114
  go_wp2_with (go_at_call 169; refine HC.out.mono ?_; rintro e w1 ⟨i, rfl, hi, hb⟩; have HI := Lib.hid hi; have HB := Lib.hid hb; clear hi hb)
  go_ret
  exact ⟨ret_bool HI.out, HB.out⟩

structure Cl where
  kind : Int
  key : Bytes
  la : Option Addr
  vals : List Bytes
  lc : Nat
abbrev clV (c : Cl) : Value := .agg #[.int .i64 c.kind, strV c.key, .slice c.la c.vals.length c.lc]
structure Cl.Fit (w : World) (c : Cl) : Prop where
  k : c.key.length ≤ maxLen
  v : Strs w c.la c.vals
  m : c.vals.length ≤ maxLen
  c : c.vals.length ≤ c.lc
theorem Cl.Fit.later {w w' : World} {c : Cl} (h : c.Fit w) (hb : Below w.heap.size w w') : c.Fit w' := ⟨h.k, h.v.later hb, h.m, h.c⟩
def inB (l : List Lb) (key : Bytes) (vals : List Bytes) : Bool := match getB l key with
  | some v => hasS vals v
  | none => false
def mOne (l : List Lb) (kind : Int) (key : Bytes) (vals : List Bytes) : Bool :=
  if kind = 1 then inB l key vals else if kind = 2 then !inB l key vals else if kind = 3 then (getB l key).isSome else if kind = 4 then !(getB l key).isSome else false
set_option maxHeartbeats 2000000 in
theorem isAmong_any (A : Option Addr) (l : List Lb) (cap : Nat) (c : Cl) (w : World) (hL : Labs w A l) (hm : l.length ≤ maxLen) (hc : c.Fit w) :
    Calls Tryz.prog 170 #[.slice A l.length cap, clV c] w fun e w' => e = .returned (.bool (inB l c.key c.vals)) ∧ Below w.heap.size w w' := by
  have HG := Lib.hid (fun (V : World) (h : Below w.heap.size w V) => get_any A l cap c.key V (hL.later h) hm)
  have HS := Lib.hid (fun (V : World) (h : Below w.heap.size w V) (v : Bytes) => contains_any c.la c.vals c.lc v V ((hc.later h).v) hc.m)
  have HI : Hid (inB l c.key c.vals = match getB l c.key with | some v => hasS c.vals v | none => false) := Lib.hid rfl
  generalize inB l c.key c.vals = r at *
  obtain ⟨kind, key, la, vals, lc⟩ := c
  simp only at HG HS HI
  have HK := Lib.hid (fun (V : World) (h : Below (w.alloc (.cells #[.int .i64 kind, strV key, .slice la vals.length lc] 95)).heap.size (w.alloc (.cells #[.int .i64 kind, strV key, .slice la vals.length lc] 95)) V) => (cells_of_heap (kept_new h)).1)
  have HBA := Lib.hid (below_alloc w (.cells #[.int .i64 kind, strV key, .slice la vals.length lc] 95))
  clear hL hc
  cases hg : getB l key with
  | none =>
    have hv : getV l key = .tuple #[.string ⟨#[]⟩, .bool false] := by unfold getV; rw [hg]
    rw [hv] at HG
    have HR : Hid (r = false) := Lib.hid (by rw [HI.out, hg])
    clear hg hv HI
    go_enter Tryz.func170, Tryz.ntmps170
    go_wp2_with (go_at_call 219; refine (HG.out _ (below_alloc _ _)).mono ?_; rintro e w1 ⟨rfl, hb⟩; have HB := Lib.hid (HBA.out.trans (hb.mono HBA.out.size)); clear hb)
    go_ret
    exact ⟨ret_bool HR.out.symm, HB.out⟩
  | some v =>
    have hv : getV l key = .tuple #[strV v, .bool true] := by unfold getV; rw [hg]
    rw [hv] at HG
    have HR : Hid (r = hasS vals v) := Lib.hid (by rw [HI.out, hg])
    clear hg hv HI
    go_enter Tryz.func170, Tryz.ntmps170
    go_wp2_with (first | (go_at_call 219; refine (HG.out _ (below_alloc _ _)).mono ?_; rintro e w1 ⟨rfl, hb⟩; have c2 := HK.out _ hb 2; have HB := Lib.hid (HBA.out.trans (hb.mono HBA.out.size)); clear hb) | (go_at_call 114; refine (HS.out _ HB.out v).mono ?_; rintro e w2 ⟨rfl, hb⟩; have HB2 := Lib.hid (HB.out.trans (hb.mono HB.out.size)); clear hb))
    go_ret
    exact ⟨ret_bool HR.out.symm, HB2.out⟩
set_option maxHeartbeats 2000000 in
theorem isNotAmong_any (A : Option Addr) (l : List Lb) (cap : Nat) (c : Cl) (w : World) (hL : Labs w A l) (hm : l.length ≤ maxLen) (hc : c.Fit w) :
    Calls Tryz.prog 171 #[.slice A l.length cap, clV c] w fun e w' => e = .returned (.bool (!inB l c.key c.vals)) ∧ Below w.heap.size w w' := by
  have HG := Lib.hid (fun (V : World) (h : Below w.heap.size w V) => isAmong_any A l cap c V (hL.later h) hm (hc.later h))
  generalize inB l c.key c.vals = r at *
  obtain ⟨kind, key, la, vals, lc⟩ := c
  have HBA := Lib.hid (below_alloc w (.cells #[.int .i64 kind, strV key, .slice la vals.length lc] 95))
  clear hL hc
  go_enter Tryz.func171, Tryz.ntmps171
  go_wp2_with (go_at_call 170; refine (HG.out _ (below_alloc _ _)).mono ?_; rintro e w1 ⟨rfl, hb⟩; have HB := Lib.hid (HBA.out.trans (hb.mono HBA.out.size)); clear hb)
  go_ret
  exact ⟨rfl, HB.out⟩
theorem getV_some (l : List Lb) (key : Bytes) : ∃ v : Bytes, getV l key = .tuple #[strV v, .bool (getB l key).isSome] := by
  unfold getV
  cases getB l key with
  | none => exact ⟨[], rfl⟩
  | some v => exact ⟨v, rfl⟩
set_option maxHeartbeats 2000000 in
theorem isThere_any (A : Option Addr) (l : List Lb) (cap : Nat) (c : Cl) (w : World) (hL : Labs w A l) (hm : l.length ≤ maxLen) :
    Calls Tryz.prog 172 #[.slice A l.length cap, clV c] w fun e w' => e = .returned (.bool (getB l c.key).isSome) ∧ Below w.heap.size w w' := by
  have HG := Lib.hid (fun (V : World) (h : Below w.heap.size w V) => get_any A l cap c.key V (hL.later h) hm)
  obtain ⟨v, hv⟩ := getV_some l c.key
  rw [hv] at HG
  generalize (getB l c.key).isSome = r at *
  obtain ⟨kind, key, la, vals, lc⟩ := c
  have HBA := Lib.hid (below_alloc w (.cells #[.int .i64 kind, strV key, .slice la vals.length lc] 95))
  clear hL hv
  go_enter Tryz.func172, Tryz.ntmps172
  go_wp2_with (go_at_call 219; refine (HG.out _ (below_alloc _ _)).mono ?_; rintro e w1 ⟨rfl, hb⟩; have HB := Lib.hid (HBA.out.trans (hb.mono HBA.out.size)); clear hb)
  go_ret
  exact ⟨rfl, HB.out⟩
set_option maxHeartbeats 2000000 in
theorem isNotThere_any (A : Option Addr) (l : List Lb) (cap : Nat) (c : Cl) (w : World) (hL : Labs w A l) (hm : l.length ≤ maxLen) :
    Calls Tryz.prog 173 #[.slice A l.length cap, clV c] w fun e w' => e = .returned (.bool (!(getB l c.key).isSome)) ∧ Below w.heap.size w w' := by
  have HG := Lib.hid (fun (V : World) (h : Below w.heap.size w V) => isThere_any A l cap c V (hL.later h) hm)
  generalize (getB l c.key).isSome = r at *
  obtain ⟨kind, key, la, vals, lc⟩ := c
  have HBA := Lib.hid (below_alloc w (.cells #[.int .i64 kind, strV key, .slice la vals.length lc] 95))
  clear hL
  go_enter Tryz.func173, Tryz.ntmps173
  go_wp2_with (go_at_call 172; refine (HG.out _ (below_alloc _ _)).mono ?_; rintro e w1 ⟨rfl, hb⟩; have HB := Lib.hid (HBA.out.trans (hb.mono HBA.out.size)); clear hb)
  go_ret
  exact ⟨rfl, HB.out⟩
set_option maxHeartbeats 2000000 in
theorem manner_1 (w : World) : Calls Tryz.prog 116 #[.int .i64 1] w fun e w' => e = .returned (.tuple #[.agg #[.func (.func 170) #[] #[], .string ⟨#[]⟩, .string ⟨#[61]⟩, .string ⟨#[32, 105, 110, 32]⟩, .bool true], .bool true]) ∧ Below w.heap.size w w' := by
  go_enter Tryz.func116, Tryz.ntmps116
  go_wp2
  exact bodyPost_ret (v := .tuple #[.agg #[.func (.func 170) #[] #[], .string ⟨#[]⟩, .string ⟨#[61]⟩, .string ⟨#[32, 105, 110, 32]⟩, .bool true], .bool true]) (by simp [results, Tryz.results116, go_sem]) rfl ⟨rfl, below_alloc _ _⟩
set_option maxHeartbeats 2000000 in
theorem manner_2 (w : World) : Calls Tryz.prog 116 #[.int .i64 2] w fun e w' => e = .returned (.tuple #[.agg #[.func (.func 171) #[] #[], .string ⟨#[]⟩, .string ⟨#[33, 61]⟩, .string ⟨#[32, 110, 111, 116, 105, 110, 32]⟩, .bool true], .bool true]) ∧ Below w.heap.size w w' := by
  go_enter Tryz.func116, Tryz.ntmps116
  go_wp2
  exact bodyPost_ret (v := .tuple #[.agg #[.func (.func 171) #[] #[], .string ⟨#[]⟩, .string ⟨#[33, 61]⟩, .string ⟨#[32, 110, 111, 116, 105, 110, 32]⟩, .bool true], .bool true]) (by simp [results, Tryz.results116, go_sem]) rfl ⟨rfl, below_alloc _ _⟩
set_option maxHeartbeats 2000000 in
theorem manner_3 (w : World) : Calls Tryz.prog 116 #[.int .i64 3] w fun e w' => e = .returned (.tuple #[.agg #[.func (.func 172) #[] #[], .string ⟨#[]⟩, .string ⟨#[]⟩, .string ⟨#[]⟩, .bool false], .bool true]) ∧ Below w.heap.size w w' := by
  go_enter Tryz.func116, Tryz.ntmps116
  go_wp2
  exact bodyPost_ret (v := .tuple #[.agg #[.func (.func 172) #[] #[], .string ⟨#[]⟩, .string ⟨#[]⟩, .string ⟨#[]⟩, .bool false], .bool true]) (by simp [results, Tryz.results116, go_sem]) rfl ⟨rfl, below_alloc _ _⟩
set_option maxHeartbeats 2000000 in
theorem manner_4 (w : World) : Calls Tryz.prog 116 #[.int .i64 4] w fun e w' => e = .returned (.tuple #[.agg #[.func (.func 173) #[] #[], .string ⟨#[33]⟩, .string ⟨#[]⟩, .string ⟨#[]⟩, .bool false], .bool true]) ∧ Below w.heap.size w w' := by
  go_enter Tryz.func116, Tryz.ntmps116
  go_wp2
  exact bodyPost_ret (v := .tuple #[.agg #[.func (.func 173) #[] #[], .string ⟨#[33]⟩, .string ⟨#[]⟩, .string ⟨#[]⟩, .bool false], .bool true]) (by simp [results, Tryz.results116, go_sem]) rfl ⟨rfl, below_alloc _ _⟩
set_option maxHeartbeats 2000000 in
theorem manner_no (k : Int) (h1 : (k == 1) = false) (h2 : (k == 2) = false) (h3 : (k == 3) = false) (h4 : (k == 4) = false) (w : World) : Calls Tryz.prog 116 #[.int .i64 k] w fun e w' => e = .returned (.tuple #[.agg #[.nilFunc, .string ⟨#[]⟩, .string ⟨#[]⟩, .string ⟨#[]⟩, .bool false], .bool false]) ∧ Below w.heap.size w w' := by
  go_enter Tryz.func116, Tryz.ntmps116
  go_wp2
  exact bodyPost_ret (v := .tuple #[.agg #[.nilFunc, .string ⟨#[]⟩, .string ⟨#[]⟩, .string ⟨#[]⟩, .bool false], .bool false]) (by simp [results, Tryz.results116, go_sem]) rfl ⟨rfl, below_alloc _ _⟩
theorem mOne_1 (l : List Lb) (key : Bytes) (vals : List Bytes) : mOne l 1 key vals = inB l key vals := rfl
theorem mOne_2 (l : List Lb) (key : Bytes) (vals : List Bytes) : mOne l 2 key vals = !inB l key vals := rfl
theorem mOne_3 (l : List Lb) (key : Bytes) (vals : List Bytes) : mOne l 3 key vals = (getB l key).isSome := rfl
theorem mOne_4 (l : List Lb) (key : Bytes) (vals : List Bytes) : mOne l 4 key vals = !(getB l key).isSome := rfl
end Go.Proofs.YtnikhhbnbeljeaaGreatDoor.LB
