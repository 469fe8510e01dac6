/- slices.SortFunc at labels, by the shelf's contract: what the row holds behind it. -/
import Derived.Test.YtpkjllliidpgoaaGreatDoorLabD
import Derived.Test.YtpkjllliidpgoaaGreatDoorShelf
set_option linter.unusedSimpArgs false
set_option linter.unusedVariables false
namespace Go.Proofs.YtpkjllliidpgoaaGreatDoor
open Go.ChangeShapes Go.WideShapes Go.ChangeAt Go.RowKit Go.Base Go.Lab
open Go.Sort hiding Below

def encL (x : Lb) : List Value := [strV x.key, strV x.val]
/-- The cells of labels, one behind the other. -/
def cellsL (l : List Lb) : List Value := (flatK encL 2 l.toArray).toList
theorem cellsL_len (l : List Lb) : (cellsL l).length = l.length * 2 := by unfold cellsL; simp
theorem cellsL_at (l : List Lb) (j : Nat) (hj : j < l.length * 2) : (cellsL l)[j]? = some ((encL l[j / 2]!)[j % 2]!) := by
  unfold cellsL
  have hsz : (flatK encL 2 l.toArray).size = l.length * 2 := by simp
  rw [Array.getElem?_toList, Array.getElem?_eq_getElem (by rw [hsz]; exact hj)]
  have := get_flatK encL 2 l.toArray j (by simpa using hj)
  rw [getElem!_pos _ _ (by rw [hsz]; exact hj)] at this
  rw [this]
  simp
theorem cellsL_key (l : List Lb) (i : Nat) (hi : i < l.length) : (cellsL l)[i * 2]? = some (strV l[i].key) := by
  rw [cellsL_at l (i * 2) (by omega), Nat.mul_div_cancel _ (by omega), Nat.mul_mod_left, getElem!_pos l i hi]; rfl
theorem cellsL_val (l : List Lb) (i : Nat) (hi : i < l.length) : (cellsL l)[i * 2 + 1]? = some (strV l[i].val) := by
  rw [cellsL_at l (i * 2 + 1) (by omega), show (i * 2 + 1) / 2 = i by omega, show (i * 2 + 1) % 2 = 1 by omega, getElem!_pos l i hi]; rfl
theorem cellsL_one (l : List Lb) : ∀ v ∈ cellsL l, v.oneCell' = true := by
  intro v hv
  obtain ⟨j, hj, rfl⟩ := List.mem_iff_getElem.1 hv
  rw [cellsL_len] at hj
  have h := cellsL_at l j hj
  rw [List.getElem?_eq_getElem (by rw [cellsL_len]; exact hj)] at h
  injection h with h
  rw [h]
  unfold encL
  rcases (by omega : j % 2 = 0 ∨ j % 2 = 1) with e | e <;> rw [e] <;> rfl
theorem swo_lb : Go.Sort.SWO (ltOf cmpLb) := by
  have e : ∀ x y, ltOf cmpLb x y = ltK x y := fun x y => lt_cmp x y
  exact ⟨fun x => by rw [e]; exact ltK_irrefl x, fun x y z h1 h2 => by rw [e] at *; exact ltK_trans h1 h2, fun x y z h1 h2 => by rw [e] at *; exact ltK_ntrans x y z h1 h2⟩
def SortPost (w : World) (g : Nat) (l : List Lb) (e : Ending) (w' : World) : Prop :=
  ∃ d : List Lb, e = .returned (.tuple #[]) ∧ d.Perm l ∧ d.Pairwise (fun x y => ltK y x = false) ∧ (∀ j v, (cellsL d)[j]? = some v → w'.cell? ⟨g, j, none⟩ = some v) ∧ (∀ B w0, Below B w0 w → B ≤ g → Below B w0 w')
theorem sort_any (g : Nat) (l : List Lb) (cap : Nat) (w : World) (hh : w.heap[g]? = some (.cells (cellsL l).toArray 46 (0, 0))) (hl : l.length < 4611686018427387904) :
    Calls Tryz.prog 24 #[.slice (some ⟨g, 0, none⟩) l.length cap, .func (.func 25) #[] #[]] w (SortPost w g l) := by
  have hsz : l.toArray.size = l.length := by simp
  have hlt := heap_lt hh
  obtain ⟨hc, hf⟩ := cells_of_heap hh
  have hH : HoldsK encL 2 w g 0 l.toArray := fun j hj => by
    have hj' : j < l.length * 2 := by simpa using hj
    refine ⟨?_, hf _⟩
    rw [Nat.zero_add, hc j]
    have h1 := cellsL_at l j hj'
    have h2 := get_flatK encL 2 l.toArray j (by simpa using hj')
    rw [h2]
    simpa using h1
  have eg : ∀ args w, (callFunc 25 args).run Tryz.prog w = .ok (.enter 25 args) w := enters_of Tryz.func25 (by kernel_rfl) rfl
  have hcmp : CmpLays Tryz.prog 25 #[] encL 2 cmpLb g 0 l.toArray.size w := fun m os dk hd x y => by
    refine (closure_any x y _).mono fun e w' ⟨he, hw⟩ => ⟨he, 0, #[.cells #[strV x.key, strV x.val] 46, .cells #[strV y.key, strV y.val] 46], ?_⟩
    rw [hw, alloc_eq_grow, alloc_eq_grow, grow_grow]
    rfl
  have hcon := AnyQ.slices_SortFunc Tryz.sortLab 2 Tryz.isAgg46 Tryz.sizeOf46 encL (fun _ => rfl) (fun x v hv => by simp [encL] at hv; rcases hv with rfl | rfl <;> rfl) cmpLb swo_lb 25 #[] g 0 cap l.toArray w eg hcmp hH hlt (by simpa using hl)
  change Calls Tryz.prog 24 _ _ _ at hcon
  rw [hsz] at hcon
  refine hcon.mono fun e w' ⟨he, d', n, os, hp, hs, hw⟩ => ⟨d'.toList, he, ?_, ?_, ?_, ?_⟩
  · have := hp.2.2
    have e1 : d'.extract 0 l.length = d' := by rw [← hsz, ← hp.1]; simp
    have e2 : l.toArray.extract 0 l.length = l.toArray := by rw [← hsz]; simp
    rw [e1, e2] at this
    simpa using this
  · rw [List.pairwise_iff_getElem]
    intro i j hi hj hij
    have hd : d'.size = l.length := by rw [hp.1, hsz]
    have hj' : j < d'.size := by simpa using hj
    have := hs i j (Nat.zero_le _) hij (by rw [← hd]; exact hj')
    rw [getElem!_pos d' j hj', getElem!_pos d' i (by omega)] at this
    rw [show ltOf cmpLb d'[j] d'[i] = ltK d'[j] d'[i] from lt_cmp _ _] at this
    simpa using this
  · intro j v hv
    have hk := holdsK_sortWorldK_c encL 2 w g 0 l.toArray d' n os hH hlt hp.1
    have hj : j < (cellsL d'.toList).length := (List.getElem?_eq_some_iff.1 hv).1
    rw [cellsL_len] at hj
    have hj2 : j < d'.size * 2 := by simpa using hj
    have h1 := (hk j (by simpa using hj2)).1
    rw [Nat.zero_add, ← hw] at h1
    rw [h1]
    have h2 := get_flatK encL 2 d' j hj2
    have e3 : d'[j / 2]! = d'.toList[j / 2]! := by rw [getElem!_pos d' (j / 2) (by omega), getElem!_pos d'.toList (j / 2) (by simp; omega)]; simp
    rw [h2, ← hv, cellsL_at _ _ hj, e3]
    rfl
  · intro B w0 hb hB
    refine hb.trans ?_
    subst hw
    unfold sortWorldK grow putRowK Sort.putRow Sort.mapBlock Sort.ahead
    refine ⟨rfl, rfl, rfl, by simp, fun k hk => ?_⟩
    have hkl : k < w.heap.size := by omega
    simp only
    rw [Array.getElem?_append_left (by simpa using hkl), Array.getElem?_modify]
    rw [if_neg (by omega)]
end Go.Proofs.YtpkjllliidpgoaaGreatDoor
