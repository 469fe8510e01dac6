/- Package plan: runs in a slice; Find, by the library's IndexFunc; the reference's. -/
import Derived.Test.YtnikhhbnbeljeaaGreatDoorPlnH
set_option linter.unusedSimpArgs false
set_option linter.unusedVariables false
namespace Go.Proofs.YtnikhhbnbeljeaaGreatDoor.PL
open Go.ChangeShapes Go.WideShapes Go.ChangeAt Go.RowKit Go.Base Go.Lab

/-- A run. -/
structure Rn where
  job : Bytes
  occ : Int
  host : Int
  ver : Int
  at_ : Int
  un : Int
  wv : Int
instance : Inhabited Rn := ⟨⟨[], 0, 0, 0, 0, 0, 0⟩⟩
def rnC (r : Rn) : List Value := [.string ⟨r.job.toArray⟩, .int .i64 r.occ, .int .i64 r.host, .int .i64 r.ver, .int .i64 r.at_, .int .i64 r.un, .int .i64 r.wv]
/-- The runs of a slice. -/
def Rns (w : World) (A : Option Addr) (l : List Rn) : Prop := ∀ (i : Nat) (h : i < l.length), ∃ b o, A = some ⟨b, o, none⟩ ∧ w.rangeAt b (o + i * 7) (rnC l[i])
theorem Rns.later {w w' : World} {A : Option Addr} {l : List Rn} (h : Rns w A l) (hb : Below w.heap.size w w') : Rns w' A l := fun i hi => by
  obtain ⟨b, o, e, hr⟩ := h i hi
  exact ⟨b, o, e, fun j v hv => cell_later hb (hr j v hv)⟩
theorem rn_cells {w : World} {b o : Nat} {r : Rn} (h : w.rangeAt b o (rnC r)) : w.cell? ⟨b, o, none⟩ = some (.string ⟨r.job.toArray⟩) ∧ w.cell? ⟨b, o + 1, none⟩ = some (.int .i64 r.occ) ∧ w.cell? ⟨b, o + 2, none⟩ = some (.int .i64 r.host) ∧ w.cell? ⟨b, o + 3, none⟩ = some (.int .i64 r.ver) ∧ w.cell? ⟨b, o + 4, none⟩ = some (.int .i64 r.at_) ∧ w.cell? ⟨b, o + 5, none⟩ = some (.int .i64 r.un) ∧ w.cell? ⟨b, o + 6, none⟩ = some (.int .i64 r.wv) :=
  ⟨h 0 _ rfl, h 1 _ rfl, h 2 _ rfl, h 3 _ rfl, h 4 _ rfl, h 5 _ rfl, h 6 _ rfl⟩
/-- Where the first run of a host stands. -/
def findR (l : List Rn) (h : Int) : Option Nat := l.findIdx? (fun r => r.host == h)
def findV (l : List Rn) (h : Int) : Value := match findR l h with
  | some k => .tuple #[.int .i64 (k : Int), .bool true]
  | none => .tuple #[.int .i64 0, .bool false]
theorem find_at {l : List Rn} {h : Int} {k : Nat} (hk : k < l.length) (hp : ∀ j (hj : j < l.length), j < k → (l[j].host == h) = false) (he : (l[k].host == h) = true) : findR l h = some k := by
  unfold findR
  rw [List.findIdx?_eq_some_iff_getElem]
  exact ⟨hk, he, fun j hj => by simp [hp j (by omega) hj]⟩
theorem find_no {l : List Rn} {h : Int} (hp : ∀ j (hj : j < l.length), (l[j].host == h) = false) : findR l h = none := by
  unfold findR
  rw [List.findIdx?_eq_none_iff]
  intro x hx
  obtain ⟨i, hi, rfl⟩ := List.mem_iff_getElem.1 hx
  exact hp i hi
def findZ (l : List Rn) (h : Int) : Int := match findR l h with | some k => (k : Int) | none => -1
theorem findZ_some {l : List Rn} {h : Int} {k : Nat} (e : findR l h = some k) : findZ l h = (k : Int) := by unfold findZ; rw [e]
theorem findZ_none {l : List Rn} {h : Int} (e : findR l h = none) : findZ l h = -1 := by unfold findZ; rw [e]
abbrev findC (ba : Nat) : Value := .func (.func 89) #[] #[.pointer (some ⟨ba, 0, none⟩)]
theorem find1_any (r : Rn) (h : Int) (ba : Nat) (w : World) (ha : w.cell? ⟨ba, 0, none⟩ = some (.int .i64 h)) :
    Calls Tryz.prog 89 #[.agg (rnC r).toArray, .pointer (some ⟨ba, 0, none⟩)] w fun e w' => e = .returned (.bool (r.host == h)) ∧ Below w.heap.size w w' := by
  have hba : ba < w.heap.size := World.block_lt_of_cell? w _ ha
  obtain ⟨job, occ, host, ver, at_, un, wv⟩ := r
  simp only [rnC]
  go_enter Tryz.func89, Tryz.ntmps89
  go_wp2
  go_ret
  exact ⟨rfl, below_alloc _ _⟩
set_option maxHeartbeats 4000000 in
set_option maxRecDepth 20000 in
theorem index_any (A : Option Addr) (l : List Rn) (c : Nat) (h : Int) (ba : Nat) (w : World) (hR : Rns w A l) (hm : l.length ≤ maxLen) (ha : w.cell? ⟨ba, 0, none⟩ = some (.int .i64 h)) :
    Calls Tryz.prog 88 #[.slice A l.length c, findC ba] w fun e w' => e = .returned (.int .i64 (findZ l h)) ∧ Below w.heap.size w w' := by
  have HR := Lib.hid hR
  have HA := Lib.hid ha
  have hm' : (l.length : Int) ≤ 9223372036854775807 := by unfold maxLen at hm; omega
  have HF := Lib.hid (fun k (hk : k < l.length) (hp : ∀ j (hj : j < l.length), j < k → (l[j].host == h) = false) (he : (l[k].host == h) = true) => findZ_some (find_at hk hp he))
  have HN := Lib.hid (fun (hp : ∀ j (hj : j < l.length), (l[j].host == h) = false) => findZ_none (find_no hp))
  generalize findZ l h = q at *
  clear hR ha hm
  go_enter Tryz.func88, Tryz.ntmps88
  go_wp2
  go_loopw [5, 8] (fun _ iv wr => ∃ k : Nat, k ≤ l.length ∧ iv = .int .i64 (k : Int) ∧ Hid (∀ j (hj : j < l.length), j < k → (l[j].host == h) = false) ∧ Hid (Below w.heap.size w wr)) (fun _ iv _ => l.length - (intOf iv).toNat)
  case atStart => exact ⟨0, Nat.zero_le _, rfl, Lib.hid (fun j hj h => by omega), Lib.hid (Below.refl _ _)⟩
  case round =>
    obtain ⟨k, hk, rfl, HP, HB⟩ := hrel
    by_cases hlt : k < l.length
    · have hlt' : (k : Int) < (l.length : Int) := by omega
      have hk0 : (0 : Int) ≤ (k : Int) := by omega
      obtain ⟨b, o, rfl, hr⟩ := (HR.out.later HB.out) k hlt
      obtain ⟨c0, c1, c2, c3, c4, c5, c6⟩ := rn_cells hr
      have HC := Lib.hid (find1_any l[k] h ba wr (cell_later HB.out HA.out))
      have HFk := Lib.hid (HF.out k hlt HP.out)
      have HPk : Hid ((l[k].host == h) = false → ∀ j (hj : j < l.length), j < k + 1 → (l[j].host == h) = false) := Lib.hid (fun hh j hj hjk => by
        by_cases e : j = k
        · subst e; exact hh
        · exact HP.out j hj (by omega))
      clear hr
      generalize l[k] = x at *
      obtain ⟨job, occ, host, ver, at_, un, wv⟩ := x
      simp only [rnC] at c0 c1 c2 c3 c4 c5 c6 HC HFk HPk
      cases hq : (host == h)
      · rw [hq] at HC HPk
        have HP2 := Lib.hid (HPk.out rfl)
        clear HPk HFk hq
        go_wp2_with (go_at_call 89; refine HC.out.mono ?_; rintro e w1 ⟨rfl, hb⟩; have HB2 := Lib.hid (HB.out.trans (hb.mono HB.out.size)); clear hb)
        go_roundw
        case rel => exact ⟨k + 1, by omega, by go_num, HP2, HB2⟩
        case measure => simp [intOf]; omega
      · rw [hq] at HC HFk
        have HV := Lib.hid (HFk.out rfl)
        clear HPk HFk hq
        go_wp2_with (go_at_call 89; refine HC.out.mono ?_; rintro e w1 ⟨rfl, hb⟩; have HB2 := Lib.hid (HB.out.trans (hb.mono HB.out.size)); clear hb)
        go_ret
        exact ⟨by rw [HV.out]; rfl, HB2.out⟩
    · obtain rfl : k = l.length := by omega
      have HV := Lib.hid (HN.out (fun j hj => HP.out j hj hj))
      clear hlt
      go_wp2
      go_ret
      exact ⟨by rw [HV.out]; rfl, HB.out⟩
theorem find_any (A : Option Addr) (l : List Rn) (c : Nat) (h : Int) (w : World) (hR : Rns w A l) (hm : l.length ≤ maxLen) :
    Calls Tryz.prog 40 #[.slice A l.length c, .int .i64 h] w fun e w' => e = .returned (findV l h) ∧ Below w.heap.size w w' := by
  have HI := Lib.hid (fun V ba (hV : Below w.heap.size w V) ha => index_any A l c h ba V (hR.later hV) hm ha)
  have HV : Hid (findV l h = match findR l h with | some k => .tuple #[.int .i64 (k : Int), .bool true] | none => .tuple #[.int .i64 0, .bool false]) := Lib.hid rfl
  have hm' : (l.length : Int) ≤ 9223372036854775807 := by unfold maxLen at hm; omega
  have HK : Hid (∀ k, findR l h = some k → k < l.length) := Lib.hid (fun k hk => by
    unfold findR at hk
    exact (List.findIdx?_eq_some_iff_getElem.1 hk).1)
  generalize findV l h = fv at *
  clear hR hm
  cases hq : findR l h with
  | none =>
    rw [findZ_none hq] at HI
    rw [hq] at HV
    clear hq HK
    go_enter Tryz.func40, Tryz.ntmps40
    go_wp2_with (go_at_call 88; refine (HI.out _ w.heap.size (below_alloc w _) (by rw [cell_new]; rfl)).mono ?_; rintro e w1 ⟨rfl, hb⟩; have HB2 := Lib.hid ((below_alloc w _).trans (hb.mono (by simp))); clear hb)
    go_ret2
    exact ⟨by rw [HV.out]; rfl, HB2.out⟩
  | some k =>
    have hk := HK.out k hq
    have hk0 : (0 : Int) ≤ (k : Int) := by omega
    have hk1 : (k : Int) < (l.length : Int) := by omega
    rw [findZ_some hq] at HI
    rw [hq] at HV
    clear hq HK
    go_enter Tryz.func40, Tryz.ntmps40
    go_wp2_with (go_at_call 88; refine (HI.out _ w.heap.size (below_alloc w _) (by rw [cell_new]; rfl)).mono ?_; rintro e w1 ⟨rfl, hb⟩; have HB2 := Lib.hid ((below_alloc w _).trans (hb.mono (by simp))); clear hb)
    go_ret2
    exact ⟨by rw [HV.out]; rfl, HB2.out⟩
end Go.Proofs.YtnikhhbnbeljeaaGreatDoor.PL
