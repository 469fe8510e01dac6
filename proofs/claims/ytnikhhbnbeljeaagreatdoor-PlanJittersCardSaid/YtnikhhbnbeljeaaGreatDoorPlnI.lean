/- Package plan: ranked hosts sorted. -/
import Derived.Test.YtnikhhbnbeljeaaGreatDoorPlnH
set_option linter.unusedSimpArgs false
set_option linter.unusedVariables false
namespace Go.Proofs.YtnikhhbnbeljeaaGreatDoor.PL
open Go.ChangeShapes Go.WideShapes Go.ChangeAt Go.RowKit Go.Base Go.Lab
open Go.Sort hiding Below

abbrev rkF (l : List Rk) : Nat → List Value := fun i => encR (l.getD i (0, 0))
/-- Ranked hosts in a row. -/
def Ranks (w : World) (g : Nat) (l : List Rk) : Prop := ∀ i (h : i < l.length), w.cell? ⟨g, i * 2, none⟩ = some (.int .i64 l[i].1) ∧ w.cell? ⟨g, i * 2 + 1, none⟩ = some (.int .u64 (l[i].2 : Int))
theorem Ranks.later {w w' : World} {g : Nat} {l : List Rk} (h : Ranks w g l) (hb : Below w.heap.size w w') : Ranks w' g l := fun i hi => ⟨cell_later hb (h i hi).1, cell_later hb (h i hi).2⟩
def SortPost (w : World) (g : Nat) (l : List Rk) (e : Ending) (w' : World) : Prop :=
  ∃ d : List Rk, e = .returned (.tuple #[]) ∧ d.Perm l ∧ d.Pairwise (fun x y => ltR y x = false) ∧ Ranks w' g d ∧ (∀ B w0, Below B w0 w → B ≤ g → Below B w0 w')
theorem sort_any (g : Nat) (l : List Rk) (cap : Nat) (w : World) (hE : Elems 2 117 w g l.length l.length (rkF l)) (hl : l.length < 4611686018427387904) :
    Calls Tryz.prog 140 #[.slice (some ⟨g, 0, none⟩) l.length cap, .func (.func 141) #[] #[]] w (SortPost w g l) := by
  have hsz : l.toArray.size = l.length := by simp
  have hlt := hE.lt
  obtain ⟨cur, hcur, hcs⟩ := hE.row
  obtain ⟨hc, hf⟩ := cells_of_heap hcur
  have hH : HoldsK encR 2 w g 0 l.toArray := fun j hj => by
    have hj' : j < l.length * 2 := by simpa using hj
    refine ⟨?_, hf _⟩
    have h2 := get_flatK encR 2 l.toArray j (by simpa using hj')
    have hi : j / 2 < l.length := by omega
    have h3 := hE.el (j / 2) hi (j % 2) ((encR l[j / 2]!)[j % 2]!) (by
      simp only [rkF]
      rw [getElem!_pos l (j / 2) hi, List.getD_eq_getElem?_getD, List.getElem?_eq_getElem hi]
      rcases (by omega : j % 2 = 0 ∨ j % 2 = 1) with e | e <;> rw [e] <;> rfl)
    rw [Nat.zero_add, h2]
    have e1 : j / 2 * 2 + j % 2 = j := by omega
    rw [e1] at h3
    rw [h3]
    have e3 : l.toArray[j / 2]! = l[j / 2]! := by rw [getElem!_pos l.toArray (j / 2) (by simpa using hi), getElem!_pos l (j / 2) hi]; simp
    rw [e3]
    rfl
  have eg : ∀ args w, (callFunc 141 args).run Tryz.prog w = .ok (.enter 141 args) w := enters_of Tryz.func141 (by kernel_rfl) rfl
  have hcmp : CmpLays Tryz.prog 141 #[] encR 2 cmpR g 0 l.toArray.size w := fun m os dk hd x y => by
    refine (against_any x y _).mono fun e w' ⟨he, q, os', hw⟩ => ⟨he, q, os', hw⟩
  have hcon := AnyQ.slices_SortFunc Tryz.sortRk 2 Tryz.isAgg117 Tryz.sizeOf117 encR (fun _ => rfl) (fun x v hv => by simp [encR] at hv; rcases hv with rfl | rfl <;> rfl) cmpR swoR 141 #[] g 0 cap l.toArray w eg hcmp hH hlt (by simpa using hl)
  change Calls Tryz.prog 140 _ _ _ at hcon
  rw [hsz] at hcon
  refine hcon.mono fun e w' ⟨he, d', n, os, hp, hs, hw⟩ => ⟨d'.toList, he, ?_, ?_, ?_, ?_⟩
  · have := hp.2.2
    have e1 : d'.extract 0 l.length = d' := by rw [← hsz, ← hp.1]; simp
    have e2 : l.toArray.extract 0 l.length = l.toArray := by rw [← hsz]; simp
    rw [e1, e2] at this
    simpa using this
  · rw [List.pairwise_iff_getElem]
    intro i j hi hj hij
    have hd : d'.size = l.length := by rw [hp.1, hsz]
    have hj' : j < d'.size := by simpa using hj
    have := hs i j (Nat.zero_le _) hij (by rw [← hd]; exact hj')
    rw [getElem!_pos d' j hj', getElem!_pos d' i (by omega)] at this
    rw [show ltOf cmpR d'[j] d'[i] = ltR d'[j] d'[i] from lt_cmpR _ _] at this
    simpa using this
  · have hk := holdsK_sortWorldK_c encR 2 w g 0 l.toArray d' n os hH hlt hp.1
    have rd : ∀ j, j < d'.size * 2 → w'.cell? ⟨g, j, none⟩ = some ((encR d'[j / 2]!)[j % 2]!) := fun j hj => by
      have h1 := (hk j (by simpa using hj)).1
      rw [Nat.zero_add, ← hw] at h1
      rw [h1, get_flatK encR 2 d' j hj]
      rfl
    intro i hi
    have hi' : i < d'.size := by simpa using hi
    refine ⟨?_, ?_⟩
    · rw [rd (i * 2) (by omega), Nat.mul_div_cancel _ (by omega), Nat.mul_mod_left, getElem!_pos d' i hi']; rfl
    · rw [rd (i * 2 + 1) (by omega), show (i * 2 + 1) / 2 = i by omega, show (i * 2 + 1) % 2 = 1 by omega, getElem!_pos d' i hi']; rfl
  · intro B w0 hb hB
    refine hb.trans ?_
    subst hw
    unfold sortWorldK grow putRowK Sort.putRow Sort.mapBlock Sort.ahead
    refine ⟨rfl, rfl, rfl, by simp, fun k hk => ?_⟩
    have hkl : k < w.heap.size := by omega
    simp only
    rw [Array.getElem?_append_left (by simpa using hkl), Array.getElem?_modify]
    rw [if_neg (by omega)]
end Go.Proofs.YtnikhhbnbeljeaaGreatDoor.PL
