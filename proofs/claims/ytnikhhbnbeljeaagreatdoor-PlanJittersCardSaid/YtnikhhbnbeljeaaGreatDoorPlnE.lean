/- Walks of package plan: ranks, jitters, waves of a place, may. -/
import Derived.Test.YtnikhhbnbeljeaaGreatDoorPlnD
set_option linter.unusedSimpArgs false
set_option linter.unusedVariables false
namespace Go.Proofs.YtnikhhbnbeljeaaGreatDoor.PL
open Go.ChangeShapes Go.WideShapes Go.ChangeAt Go.RowKit Go.Base Go.Lab Go.Civ Go.Wire

theorem at_world {C P : World → Prop} {W : World} (h : P W) (h2 : ∀ V, P V → C V) : C W := h2 _ h
theorem itoT_len {n : Int} (h : I64 n) : (itoT n).length ≤ maxLen := by
  have := Lib.itoa_length_le n h.1 h.2
  unfold itoT maxLen; omega
theorem strs_two (w : World) (t : TypeId) (x y : Bytes) (hx : x.length ≤ maxLen) (hy : y.length ≤ maxLen) : Strs (w.alloc (.cells #[.string ⟨x.toArray⟩, .string ⟨y.toArray⟩] t)) (some ⟨w.heap.size, 0, none⟩) [x, y] := fun i hi => by
  match i, hi with
  | 0, _ => exact ⟨w.heap.size, 0, rfl, by rw [Nat.zero_add, cell_new]; rfl, hx⟩
  | 1, _ => exact ⟨w.heap.size, 0, rfl, by rw [Nat.zero_add, cell_new]; rfl, hy⟩
theorem strs_three (w : World) (t : TypeId) (x y z : Bytes) (hx : x.length ≤ maxLen) (hy : y.length ≤ maxLen) (hz : z.length ≤ maxLen) : Strs (w.alloc (.cells #[.string ⟨x.toArray⟩, .string ⟨y.toArray⟩, .string ⟨z.toArray⟩] t)) (some ⟨w.heap.size, 0, none⟩) [x, y, z] := fun i hi => by
  match i, hi with
  | 0, _ => exact ⟨w.heap.size, 0, rfl, by rw [Nat.zero_add, cell_new]; rfl, hx⟩
  | 1, _ => exact ⟨w.heap.size, 0, rfl, by rw [Nat.zero_add, cell_new]; rfl, hy⟩
  | 2, _ => exact ⟨w.heap.size, 0, rfl, by rw [Nat.zero_add, cell_new]; rfl, hz⟩
/-- A host's rank. -/
def rankN (nm : Bytes) (occ h : Int) : Nat := Mx.hash [nm, itoT occ, itoT h]
/-- A host's jitter. -/
def jitN (j : Jb) (h : Int) : Int := MI.spr (j.jit + 1) [j.name, itoT h]
set_option maxHeartbeats 4000000 in
theorem rank_any (j : Jb) (occ h : Int) (ho : I64 occ) (hh : I64 h) (hn : j.name.length ≤ maxLen) (w : World) (hP : Pow w) :
    Calls Tryz.prog 38 #[jobV j, .int .i64 occ, .int .i64 h] w fun e w' => e = .returned (.int .u64 (rankN j.name occ h : Nat)) ∧ Below w.heap.size w w' := by
  have HO := Lib.hid (fun V (hV : Pow V) => itoa_any occ ho V hV)
  have HH := Lib.hid (fun V (hV : Pow V) => itoa_any h hh V hV)
  have HL := Lib.hid (And.intro hn (And.intro (itoT_len ho) (itoT_len hh)))
  have HR : Hid (rankN j.name occ h = Mx.hash [j.name, itoT occ, itoT h]) := Lib.hid rfl
  have HP := Lib.hid hP
  rw [HR.out]
  clear HR hn hP ho hh
  obtain ⟨nm, sp, sa, sel, sc, jit, wav, fai, par, dea, mis, bnd⟩ := j
  simp only [jobV, jobC] at *
  generalize itoT occ = t1 at *
  generalize itoT h = t2 at *
  go_enter Tryz.func38, Tryz.ntmps38
  go_wp2
  refine at_world (C := fun V => Code.wp _ _ _ _ V) (P := fun V => Below w.heap.size w V ∧ V.cell? ⟨w.heap.size, 0, none⟩ = some (.string ⟨nm.toArray⟩)) ⟨below_alloc _ _, by rw [cell_new]; rfl⟩ (fun W hW => ?_)
  obtain ⟨hB, hcell⟩ := hW
  have hP2 := HP.out.later hB
  have HB := Lib.hid hB
  have hzw : W.heap.size ≤ W.heap.size := Nat.le_refl _
  have HP2 := Lib.hid hP2
  clear hB hP2
  go_region_held3 (fun w' => Below W.heap.size W w' ∧ w'.cell? ⟨w.heap.size, 0, none⟩ = some (.string ⟨nm.toArray⟩)) (((try dsimp only); exact And.intro (by first | assumption | exact Below.refl _ _ | go_grown) (cell_later (by first | assumption | exact Below.refl _ _ | go_grown) hcell))) ((first | (go_at_call 86; refine Calls.mono (by with_reducible exact HO.out _ (HP2.out.later (‹Below W.heap.size W _ ∧ _›).1)) ?_; rintro e w3 ⟨rfl, hb⟩; have hS3 : Below W.heap.size W w3 := (‹Below W.heap.size W _ ∧ _›).1.trans (hb.mono (‹Below W.heap.size W _ ∧ _›).1.size); clear hb; have hz3 := hS3.size) | (go_at_call 86; refine Calls.mono (by with_reducible exact HH.out _ (HP2.out.later (‹Below W.heap.size W _ ∧ _›).1)) ?_; rintro e w4 ⟨rfl, hb⟩; have hS4 : Below W.heap.size W w4 := (‹Below W.heap.size W _ ∧ _›).1.trans (hb.mono (‹Below W.heap.size W _ ∧ _›).1.size); clear hb; have hz4 := hS4.size) | (go_at_call 85; refine (MI.hash_any _ [nm, t1, t2] _ _ (strs_three _ _ _ _ _ HL.out.1 HL.out.2.1 HL.out.2.2) (by simp [maxLen])).mono ?_; rintro e w5 ⟨rfl, rfl⟩)))
  all_goals
    go_wp2
    go_ret
    exact ⟨rfl, HB.out.trans (Below.mono (by go_grown) HB.out.size)⟩
end Go.Proofs.YtnikhhbnbeljeaaGreatDoor.PL
