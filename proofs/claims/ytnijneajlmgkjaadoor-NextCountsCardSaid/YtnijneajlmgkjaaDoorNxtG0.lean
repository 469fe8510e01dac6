/- The beginnings of days that match, month by month, on a way; marks of loops that are over. -/
import Derived.Test.YtnijneajlmgkjaaDoorNxtF
set_option linter.unusedSimpArgs false
set_option linter.unusedVariables false
namespace Go
open Go.RowKit Go.Proofs.YtnijneajlmgkjaaDoor
/-- The marks of loops over functions that are over. -/
def marks (Ds : List Nat) : List Deferred := Ds.map fun D => { target := .collected D, args := #[] }
theorem leaves_marks {F : Fence} {n : Nat} {P : Program} {fn : Func} {tmps : Array Value} {R : Ending → World → Prop} : ∀ (Ds : List Nat) (w : World), Ds.Nodup → (∀ D ∈ Ds, w.heap[D]? = some (.deferred (some []))) →
    (∀ w', Moved (fun k => k ∈ Ds) w w' → LeavesInM F n P fn tmps R [] .returning w') → LeavesInM F n P fn tmps R (marks Ds) .returning w
  | [], w, _, _, h => h w (Moved.refl _ _)
  | D :: Ds, w, hn, hD, h => by
    have hn' := List.nodup_cons.1 hn
    refine ⟨by simp, .inl ⟨D, _, rfl, run_takeDeferred (hD D (by simp)), ?_⟩⟩
    refine leaves_marks Ds _ hn'.2 (fun E hE => ?_) (fun w' hm => h w' ?_)
    · have hne : E ≠ D := fun e => hn'.1 (e ▸ hE)
      exact (World.putObj_heap_other hne).trans (hD E (by simp [hE]))
    · have m1 : Moved (fun k => k ∈ D :: Ds) w (w.putObj D (.deferred none)) := moved_putObjO w _ (by simp)
      exact m1.trans hm (fun k _ hk => by simp [hk])
end Go
namespace Go.Proofs.YtnijneajlmgkjaaDoor
open Go.ChangeShapes Go.WideShapes Go.ChangeAt Go.RowKit Go.Base Go.Civ Go.Nxt Go.Cro
def stepI (d : Bool) : Int := if d then 1 else -1
/-- The beginnings of the days that match, from a month on; e months ahead of it had none. -/
def midL (d : Bool) (s : Sp) : Nat → Int → Nat → Int → List Int
  | 0, _, _, _ => []
  | f + 1, m, days, e => if e ≤ 4800 ∧ 12 ≤ m ∧ m ≤ 119999 then (vals d days).map (midA m) ++ midL d s f (m + stepI d) (mdays s (m + stepI d)) ((if vals d days = [] then e else 0) + 1) else []
/-- Days that are in a month. -/
def DaysIn (m : Int) (days : Nat) : Prop := days < 18446744073709551616 ∧ ∀ v, days.testBit v = true → 1 ≤ v ∧ (v : Int) ≤ len (m / 12) (m % 12 + 1)
theorem mdays_in (s : Sp) (m : Int) : DaysIn m (mdays s m) := by
  refine ⟨mdays_lt s m, fun v hv => ?_⟩
  unfold mdays at hv
  split at hv
  · rw [dset_test] at hv
    simp at hv
    have := len_bd (m / 12) (m % 12 + 1)
    omega
  · simp at hv
theorem since_in {d : Bool} {m : Int} {days v : Nat} (h : DaysIn m days) : DaysIn m (since d days v) := by
  refine ⟨since_lt h.1, fun i hi => h.2 i ?_⟩
  rw [since_test h.1] at hi
  cases h9 : days.testBit i
  · rw [h9] at hi; simp at hi
  · rfl
/-- How many months are left at most. -/
def Fuel (d : Bool) (f : Nat) (m : Int) : Prop := if d then 120000 ≤ m + f else m ≤ 11 + f
theorem midA_bd {m : Int} {v : Nat} (h1 : 12 ≤ m) (h2 : m ≤ 119999) (hv : 1 ≤ v) (hv' : (v : Int) ≤ len (m / 12) (m % 12 + 1)) : -62135596800 ≤ midA m v ∧ midA m v ≤ 253402214400 := by
  have h : okd (m / 12) (m % 12 + 1) v := by unfold okd; omega
  have := num_bd' h
  unfold midA
  omega
theorem midL_bd {d : Bool} {s : Sp} {x : Int} : ∀ {f : Nat} {m : Int} {days : Nat} {e : Int}, DaysIn m days → x ∈ midL d s f m days e → -62135596800 ≤ x ∧ x ≤ 253402214400
  | 0, _, _, _, _, h => by simp [midL] at h
  | f + 1, m, days, e, hd, h => by
    simp only [midL] at h
    split at h
    · rename_i hg
      rcases List.mem_append.1 h with h | h
      · obtain ⟨v, hv, rfl⟩ := List.mem_map.1 h
        have := hd.2 v (mem_vals.1 hv).2
        exact midA_bd hg.2.1 hg.2.2 this.1 this.2
      · exact midL_bd (mdays_in s _) h
    · cases h
end Go.Proofs.YtnijneajlmgkjaaDoor
