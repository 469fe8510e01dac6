/- What a way's clock tells, in plain words. No program. -/
import Derived.Test.YtnijneajlmgkjaaDoorNxtA
set_option linter.unusedSimpArgs false
set_option linter.unusedVariables false
namespace Go.Nxt
/-- The seconds of a day that are not ahead of an hour and a minute, on a way. -/
def minsL (d : Bool) (M fh fm h : Nat) : List Int := (vals d (if h = fh then since d M fm else M)).map fun m : Nat => (h : Int) * 3600 + (m : Int) * 60
def clockL (d : Bool) (H M fh fm : Nat) : List Int := (vals d (since d H fh)).flatMap (minsL d M fh fm)
theorem minsL_bd {d : Bool} {M fh fm h : Nat} {x : Int} (hx : x ∈ minsL d M fh fm h) : ∃ m : Nat, m < 64 ∧ x = (h : Int) * 3600 + (m : Int) * 60 := by
  simp only [minsL, List.mem_map] at hx
  obtain ⟨m, hm, rfl⟩ := hx
  exact ⟨m, (mem_vals.1 hm).1, rfl⟩
theorem clockL_bd {d : Bool} {H M fh fm : Nat} {x : Int} (hx : x ∈ clockL d H M fh fm) : 0 ≤ x ∧ x ≤ 230580 := by
  simp only [clockL, List.mem_flatMap] at hx
  obtain ⟨h, hh, hx⟩ := hx
  obtain ⟨m, hm, rfl⟩ := minsL_bd hx
  have := (mem_vals.1 hh).1
  omega
theorem prefix_mem {α : Type} {pre M : List α} {x : α} (h : pre ++ [x] <+: M) : x ∈ M := h.subset (by simp)
theorem flat_prefix {α β : Type} {f : α → List β} {pre M : List α} {x : α} {q : List β} (h : pre ++ [x] <+: M) (hq : q <+: f x) : pre.flatMap f ++ q <+: M.flatMap f := by
  obtain ⟨r, rfl⟩ := h
  obtain ⟨r', hr'⟩ := hq
  refine ⟨r' ++ r.flatMap f, ?_⟩
  simp [List.flatMap_append, ← hr']
theorem flat_prefix' {α β : Type} {f : α → List β} {pre M : List α} (h : pre <+: M) : pre.flatMap f <+: M.flatMap f := by
  obtain ⟨r, rfl⟩ := h
  exact ⟨r.flatMap f, by simp⟩
theorem map_prefix {α β : Type} {f : α → β} {pre M : List α} (h : pre <+: M) : pre.map f <+: M.map f := by
  obtain ⟨r, rfl⟩ := h
  exact ⟨r.map f, by simp⟩
end Go.Nxt
