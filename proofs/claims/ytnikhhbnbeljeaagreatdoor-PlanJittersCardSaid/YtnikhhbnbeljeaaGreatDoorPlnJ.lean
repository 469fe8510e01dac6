/- Package plan: hosts by rising ranks (plain), and inOrder. -/
import Derived.Test.YtnikhhbnbeljeaaGreatDoorPlnI
import Derived.Test.YtnikhhbnbeljeaaGreatDoorPlnG
set_option linter.unusedSimpArgs false
set_option linter.unusedVariables false
namespace Go.Proofs.YtnikhhbnbeljeaaGreatDoor.PL
open Go.ChangeShapes Go.WideShapes Go.ChangeAt Go.RowKit Go.Base Go.Lab

/-- One more host among those by rising ranks. -/
def insH (f : Int → Nat) (l : List Int) (h : Int) : List Int := l.takeWhile (fun x => decide (f x ≤ f h)) ++ h :: l.dropWhile (fun x => decide (f x ≤ f h))
/-- Hosts by rising ranks. -/
def ordH (f : Int → Nat) (hs : List Int) : List Int := hs.foldl (insH f) []
theorem ordH_snoc (f : Int → Nat) (hs : List Int) (h : Int) : ordH f (hs ++ [h]) = insH f (ordH f hs) h := by unfold ordH; rw [List.foldl_append]; rfl
theorem insH_perm (f : Int → Nat) (l : List Int) (h : Int) : (insH f l h).Perm (l ++ [h]) := by
  unfold insH
  have e := List.takeWhile_append_dropWhile (p := fun x => decide (f x ≤ f h)) (l := l)
  have h1 : (l.takeWhile (fun x => decide (f x ≤ f h)) ++ h :: l.dropWhile (fun x => decide (f x ≤ f h))).Perm (h :: (l.takeWhile (fun x => decide (f x ≤ f h)) ++ l.dropWhile (fun x => decide (f x ≤ f h)))) := List.perm_middle
  rw [e] at h1
  exact h1.trans (List.perm_append_singleton h l).symm
theorem ordH_perm (f : Int → Nat) (hs : List Int) : (ordH f hs).Perm hs := by
  have : ∀ (n : Nat) (hs : List Int), hs.length = n → (ordH f hs).Perm hs := by
    intro n
    induction n with
    | zero => intro hs h; rw [List.length_eq_zero_iff.1 h]; exact List.Perm.refl _
    | succ n ih =>
      intro hs h
      rcases List.eq_nil_or_concat hs with rfl | ⟨l, x, rfl⟩
      · simp at h
      · rw [List.concat_eq_append, ordH_snoc]
        exact (insH_perm f _ x).trans ((ih l (by simpa using h)).append_right [x])
  exact this _ hs rfl
theorem ordH_len (f : Int → Nat) (hs : List Int) : (ordH f hs).length = hs.length := (ordH_perm f hs).length_eq
/-- Which of two comes first. -/
def Lt (f : Int → Nat) (x y : Int) : Prop := f x < f y ∨ f x = f y ∧ x < y
theorem drop_head (p : Int → Bool) : ∀ (l : List Int) (y : Int) (r : List Int), l.dropWhile p = y :: r → p y = false
  | [], _, _, h => by simp at h
  | x :: l, y, r, h => by
    rw [List.dropWhile_cons] at h
    split at h
    · exact drop_head p l y r h
    · next hn =>
      injection h with h
      subst h
      simpa using hn
theorem insH_rises (f : Int → Nat) (l : List Int) (h : Int) (hl : l.Pairwise (Lt f)) (hx : ∀ x ∈ l, x < h) : (insH f l h).Pairwise (Lt f) := by
  unfold insH
  rw [List.pairwise_append]
  have hpre := List.takeWhile_prefix (p := fun x => decide (f x ≤ f h)) (l := l)
  have hsuf := List.dropWhile_suffix (l := l) (fun x => decide (f x ≤ f h))
  have ht : ∀ x ∈ l.takeWhile (fun x => decide (f x ≤ f h)), f x ≤ f h := fun x hx => by
    have := List.all_eq_true.1 (List.all_takeWhile (p := fun x => decide (f x ≤ f h)) (l := l)) x hx
    simpa using this
  have hd : ∀ x ∈ l.dropWhile (fun x => decide (f x ≤ f h)), f h < f x := by
    have hp : (l.dropWhile (fun x => decide (f x ≤ f h))).Pairwise (Lt f) := hl.sublist hsuf.sublist
    cases hdl : l.dropWhile (fun x => decide (f x ≤ f h)) with
    | nil => intro x hx; cases hx
    | cons y r =>
      have hy : f h < f y := by
        have := drop_head _ l y r hdl
        simpa using this
      rw [hdl] at hp
      intro x hx
      rcases List.mem_cons.1 hx with rfl | hx
      · exact hy
      · have := (List.pairwise_cons.1 hp).1 x hx
        unfold Lt at this; omega
  refine ⟨hl.sublist hpre.sublist, List.pairwise_cons.2 ⟨fun y hy => .inl (hd y hy), hl.sublist hsuf.sublist⟩, fun x hx1 y hy => ?_⟩
  have h1 := ht x hx1
  rcases List.mem_cons.1 hy with rfl | hy
  · have := hx x (hpre.subset hx1)
    unfold Lt; omega
  · have := hd y hy
    unfold Lt; omega
theorem ordH_rises (f : Int → Nat) (hs : List Int) (h : hs.Pairwise (· < ·)) : (ordH f hs).Pairwise (Lt f) := by
  have : ∀ (n : Nat) (hs : List Int), hs.length = n → hs.Pairwise (· < ·) → (ordH f hs).Pairwise (Lt f) := by
    intro n
    induction n with
    | zero => intro hs h _; rw [List.length_eq_zero_iff.1 h]; exact List.Pairwise.nil
    | succ n ih =>
      intro hs h hp
      rcases List.eq_nil_or_concat hs with rfl | ⟨l, x, rfl⟩
      · simp at h
      · rw [List.concat_eq_append] at *
        rw [ordH_snoc]
        rw [List.pairwise_append] at hp
        exact insH_rises f _ x (ih l (by simpa using h) hp.1) (fun y hy => hp.2.2 y ((ordH_perm f l).subset hy) x (List.mem_singleton.2 rfl))
  exact this _ hs rfl h
theorem lt_unique (f : Int → Nat) : ∀ {a b : List Int}, a.Pairwise (Lt f) → b.Pairwise (Lt f) → a.Perm b → a = b
  | [], b, _, _, hp => (List.nil_perm.1 hp).symm
  | x :: a, [], _, _, hp => absurd hp.length_eq (by simp)
  | x :: a, y :: b, ha, hb, hp => by
    have hxy : x = y := by
      have hx : x ∈ y :: b := hp.subset (List.mem_cons_self)
      have hy : y ∈ x :: a := hp.symm.subset (List.mem_cons_self)
      rcases List.mem_cons.1 hx with e | hx
      · exact e
      · rcases List.mem_cons.1 hy with e | hy
        · exact e.symm
        · have h1 := (List.pairwise_cons.1 ha).1 y hy
          have h2 := (List.pairwise_cons.1 hb).1 x hx
          unfold Lt at h1 h2; omega
    subst hxy
    rw [lt_unique f (List.pairwise_cons.1 ha).2 (List.pairwise_cons.1 hb).2 ((List.perm_cons x).1 hp)]
/-- Ranked hosts, in order. -/
def rkL (f : Int → Nat) (hs : List Int) : List Rk := (ordH f hs).map fun h => (h, f h)
theorem sorted_rk (f : Int → Nat) (hs : List Int) (d : List Rk) (h : hs.Pairwise (· < ·)) (hp : d.Perm (hs.map fun h => (h, f h))) (hs2 : d.Pairwise (fun x y => ltR y x = false)) : d = rkL f hs := by
  have hmem : ∀ x ∈ d, x = (x.1, f x.1) := fun x hx => by
    obtain ⟨y, _, rfl⟩ := List.mem_map.1 (hp.subset hx)
    rfl
  have hd : d = (d.map Prod.fst).map (fun h => (h, f h)) := by
    rw [List.map_map]
    conv => lhs; rw [← List.map_id d]
    exact List.map_congr_left (fun x hx => hmem x hx)
  have hpe : (d.map Prod.fst).Perm hs := by
    have := hp.map Prod.fst
    rwa [List.map_map, show (Prod.fst ∘ fun h : Int => (h, f h)) = id from rfl, List.map_id] at this
  have hnd : (d.map Prod.fst).Nodup := hpe.symm.nodup (h.imp (fun hlt he => by omega))
  have hrise : (d.map Prod.fst).Pairwise (Lt f) := by
    rw [List.pairwise_map]
    have hn2 : d.Pairwise (fun x y => x.1 ≠ y.1) := List.pairwise_map.1 hnd
    refine (List.pairwise_and_iff.2 ⟨hs2, hn2⟩).imp_of_mem (fun hx hy hxy => ?_)
    obtain ⟨h1, h2⟩ := hxy
    rename_i x y
    have ex := hmem x hx
    have ey := hmem y hy
    have e1 : x.2 = f x.1 := by rw [ex]
    have e2 : y.2 = f y.1 := by rw [ey]
    unfold ltR at h1
    rw [decide_eq_false_iff_not] at h1
    unfold Lt
    rw [e1, e2] at h1
    omega
  unfold rkL
  rw [hd]
  congr 1
  exact lt_unique f hrise (ordH_rises f hs h) (hpe.trans (ordH_perm f hs).symm)
end Go.Proofs.YtnikhhbnbeljeaaGreatDoor.PL
