/- Walks of package cron: readers of numbers that have names. -/
import Derived.Test.YtbbleedepmcdfaaDoorCroB
set_option linter.unusedSimpArgs false
set_option linter.unusedVariables false
namespace Go.Proofs.YtbbleedepmcdfaaDoor
open Go.ChangeShapes Go.WideShapes Go.ChangeAt Go.RowKit Go.Base Go.Cro

/-- The names before place k are all others. -/
def Miss (nm s : ByteArray) (k : Nat) : Prop := ∀ j, j < k → ((nm.extract (3 * j) (3 * j + 3)).toList == s.toList) = false

theorem named_at (nm s : ByteArray) (first : Int) (a b : Addr) (w : World) (ha : w.cell? a = some (.string nm)) (hb : w.cell? b = some (.int .i64 first)) (K k : Nat) (hK : K ≤ 12) (hsz : nm.size = 3 * K) (hk : k < K)
    (h3 : s.size = 3) (hit : ((nm.extract (3 * k) (3 * k + 3)).toList == s.toList) = true) (hm : Miss nm s k) (hf0 : 0 ≤ first) (hf1 : first ≤ 1) :
    Calls Tryd.prog 57 #[.string s, .pointer (some a), .pointer (some b)] w fun e w' => e = .returned (.tuple #[.int .i64 (first + (k : Int)), .bool true]) ∧ w = w' := by
  have hs1 : ((s.size : Int) != 3) = false := by simp [h3]
  have hn1 : nm.size ≤ 36 := by omega
  have hn2 : 3 * k + 3 ≤ nm.size := by omega
  have HM := Lib.hid hm
  have HI := Lib.hid hit
  have HZ := Lib.hid hsz
  clear hm hit hsz h3
  go_enter Tryd.func57, Tryd.ntmps57
  go_wp2
  go_loop [6] (fun i => ∃ m j : Nat, m = 3 * j ∧ j ≤ k ∧ i = .int .i64 m) (fun i => (40 - intOf i).toNat)
  case atStart => exact ⟨0, 0, rfl, by omega, rfl⟩
  case round =>
    obtain ⟨m, j, hmj, hj, rfl⟩ := hrel
    have hm1 : m + 3 ≤ nm.size := by omega
    by_cases hjk : j < k
    · have e : ((nm.extract m (m + 3)).toList == s.toList) = false := by rw [hmj]; exact HM.out j hjk
      have HJ := Lib.hid hmj
      clear hmj
      go_wp2
      go_round
      case rel => exact ⟨m + 3, j + 1, by have := HJ.out; omega, by omega, by go_num⟩
      case measure => simp [intOf]; omega
    · obtain rfl : j = k := by omega
      have e : ((nm.extract m (m + 3)).toList == s.toList) = true := by rw [hmj]; exact HI.out
      have HJ := Lib.hid hmj
      clear hmj
      go_wp2
      go_ret2
      exact ⟨ret_tup (by have := HJ.out; omega), rfl⟩
theorem named_not (nm s : ByteArray) (first : Int) (a b : Addr) (w : World) (ha : w.cell? a = some (.string nm)) (hb : w.cell? b = some (.int .i64 first)) (K : Nat) (hK : K ≤ 12) (hsz : nm.size = 3 * K)
    (h3 : s.size = 3) (hm : Miss nm s K) :
    Calls Tryd.prog 57 #[.string s, .pointer (some a), .pointer (some b)] w fun e w' => e = .returned (.tuple #[.int .i64 0, .bool false]) ∧ w = w' := by
  have hs1 : ((s.size : Int) != 3) = false := by simp [h3]
  have hn1 : nm.size ≤ 36 := by omega
  have HM := Lib.hid hm
  have HZ := Lib.hid hsz
  clear hm hsz h3
  go_enter Tryd.func57, Tryd.ntmps57
  go_wp2
  go_loop [6] (fun i => ∃ m j : Nat, m = 3 * j ∧ j ≤ K ∧ i = .int .i64 m) (fun i => (40 - intOf i).toNat)
  case atStart => exact ⟨0, 0, rfl, by omega, rfl⟩
  case round =>
    obtain ⟨m, j, hmj, hj, rfl⟩ := hrel
    by_cases hjk : j < K
    · have hm1 : m + 3 ≤ nm.size := by have := HZ.out; omega
      have e : ((nm.extract m (m + 3)).toList == s.toList) = false := by rw [hmj]; exact HM.out j hjk
      have HJ := Lib.hid hmj
      clear hmj
      go_wp2
      go_round
      case rel => exact ⟨m + 3, j + 1, by have := HJ.out; omega, by omega, by go_num⟩
      case measure => simp [intOf]; omega
    · have hm1 : nm.size ≤ m := by have := HZ.out; omega
      have HJ := Lib.hid hmj
      clear hmj
      go_wp2
      go_ret2
      exact ⟨rfl, rfl⟩
theorem named_num (l : Bytes) (a b : Addr) (w : World) (hl : l.length ≤ maxLen) (h3 : l.length ≠ 3) :
    Calls Tryd.prog 57 #[.string ⟨l.toArray⟩, .pointer (some a), .pointer (some b)] w fun e w' => e = .returned (opt (numB l)) ∧ w = w' := by
  have hs1 : (((⟨l.toArray⟩ : ByteArray).size : Int) != 3) = true := by simp [ByteArray.size]; omega
  have hs2 : ((l.length : Int) != 3) = true := by simp; omega
  have HL := Lib.hid hl
  clear hl h3
  cases h : numB l with
  | none =>
    have H := Lib.hid h
    clear h
    go_enter Tryd.func57, Tryd.ntmps57
    go_wp2_with (go_at_call 37; refine (number_none _ _ HL.out H.out).mono ?_; rintro e w' ⟨rfl, rfl⟩)
    go_ret2
    exact ⟨rfl, rfl⟩
  | some n =>
    have H := Lib.hid h
    clear h
    go_enter Tryd.func57, Tryd.ntmps57
    go_wp2_with (go_at_call 37; refine (number_some _ _ _ H.out).mono ?_; rintro e w' ⟨rfl, rfl⟩)
    go_ret2
    exact ⟨rfl, rfl⟩

def monthsT : ByteArray := ⟨#[106, 97, 110, 102, 101, 98, 109, 97, 114, 97, 112, 114, 109, 97, 121, 106, 117, 110, 106, 117, 108, 97, 117, 103, 115, 101, 112, 111, 99, 116, 110, 111, 118, 100, 101, 99]⟩
def weekT : ByteArray := ⟨#[115, 117, 110, 109, 111, 110, 116, 117, 101, 119, 101, 100, 116, 104, 117, 102, 114, 105, 115, 97, 116]⟩
theorem months_ext : ∀ k : Nat, k < 12 → (monthsT.extract (3 * k) (3 * k + 3)).data.toList = months.getD k [] := by decide +kernel
theorem week_ext : ∀ k : Nat, k < 7 → (weekT.extract (3 * k) (3 * k + 3)).data.toList = weekdays.getD k [] := by decide +kernel

theorem ba_eq (x : ByteArray) (l : Bytes) : (x.toList == (⟨l.toArray⟩ : ByteArray).toList) = (x.data.toList == l) := by
  rw [Lib.toList_data, Lib.toList_data]

theorem named_any (names : List Bytes) (nm : ByteArray) (K : Nat) (hK : K ≤ 12) (hlen : names.length = K) (hext : ∀ k : Nat, k < K → (nm.extract (3 * k) (3 * k + 3)).data.toList = names.getD k []) (hsz : nm.size = 3 * K)
    (first : Int) (hf0 : 0 ≤ first) (hf1 : first ≤ 1) (l : Bytes) (hl : l.length ≤ maxLen) (a b : Addr) (w : World) (ha : w.cell? a = some (.string nm)) (hb : w.cell? b = some (.int .i64 first)) :
    Calls Tryd.prog 57 #[.string ⟨l.toArray⟩, .pointer (some a), .pointer (some b)] w fun e w' => e = .returned (opt (namB names first l)) ∧ w = w' := by
  unfold namB
  by_cases h3 : l.length = 3
  · rw [if_pos h3]
    have h3' : (⟨l.toArray⟩ : ByteArray).size = 3 := by simp [ByteArray.size, h3]
    have hmiss : ∀ j, j < K → (names.getD j [] == l) = false → ((nm.extract (3 * j) (3 * j + 3)).toList == (⟨l.toArray⟩ : ByteArray).toList) = false := fun j hj h => by rw [ba_eq, hext j hj]; exact h
    cases hf : names.findIdx? (· == l) with
    | none =>
      refine named_not nm ⟨l.toArray⟩ first a b w ha hb K hK hsz h3' fun j hj => hmiss j hj ?_
      have := List.findIdx?_eq_none_iff.1 hf
      rw [List.getD_eq_getElem?_getD, List.getElem?_eq_getElem (by omega)]
      exact this _ (List.getElem_mem _)
    | some k =>
      obtain ⟨hk, h1, h2⟩ := List.findIdx?_eq_some_iff_getElem.1 hf
      refine named_at nm ⟨l.toArray⟩ first a b w ha hb K k hK hsz (by omega) h3' ?_ ?_ hf0 hf1
      · rw [ba_eq, hext k (by omega), List.getD_eq_getElem?_getD, List.getElem?_eq_getElem hk]; exact h1
      · intro j hj
        refine hmiss j (by omega) ?_
        rw [List.getD_eq_getElem?_getD, List.getElem?_eq_getElem (by omega)]
        have := h2 j hj
        simpa using this
  · rw [if_neg h3]
    exact named_num l a b w hl h3
end Go.Proofs.YtbbleedepmcdfaaDoor
