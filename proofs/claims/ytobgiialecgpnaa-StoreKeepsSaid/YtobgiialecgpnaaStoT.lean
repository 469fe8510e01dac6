/- Walks of package store: Rename. -/
import Derived.Test.YtobgiialecgpnaaStoS
set_option linter.unusedSimpArgs false
set_option linter.unusedVariables false
namespace Go.Sto
theorem used_cons' (f : Fil) (l : List Fil) : used (f :: l) = f.bytes.length + used l := by unfold used; simp
theorem used_ins_le (f : Fil) : ∀ l : List Fil, used (ins f l) ≤ used l + f.bytes.length
  | [] => by rw [ins_nil, used_cons']; omega
  | x :: l => by
    rw [ins_cons]
    split
    · rw [used_cons', used_cons']; omega
    · split
      · rw [used_cons', used_cons']; omega
      · have := used_ins_le f l; rw [used_cons', used_cons']; omega
theorem del_cons (s : List UInt8) (x : Fil) (l : List Fil) : del s (x :: l) = if x.name = s then del s l else x :: del s l := by
  unfold del
  rw [List.filter_cons]
  by_cases h : x.name = s
  · rw [if_pos h, if_neg (by simp [h])]
  · rw [if_neg h, if_pos (by simpa using h)]
theorem del_ins (f : Fil) : ∀ l : List Fil, del f.name (ins f l) = del f.name l
  | [] => by rw [ins_nil, del_cons, if_pos rfl]
  | x :: l => by
    rw [ins_cons]
    split
    · rename_i e; rw [del_cons, if_pos rfl, del_cons, if_pos e.symm]
    · rename_i e
      split
      · rw [del_cons, if_pos rfl]
      · rw [del_cons, if_neg (fun h => e h.symm), del_ins f l, del_cons, if_neg (fun h => e h.symm)]
theorem used_del_mem {f : Fil} : ∀ {l : List Fil}, f ∈ l → used (del f.name l) + f.bytes.length ≤ used l
  | [], h => by cases h
  | x :: l, h => by
    rw [del_cons, used_cons']
    rcases List.mem_cons.1 h with rfl | h
    · rw [if_pos rfl]
      have : used (del f.name l) ≤ used l := by
        clear h
        induction l with
        | nil => exact Nat.le_refl _
        | cons y l ih => rw [del_cons, used_cons']; split <;> (try rw [used_cons']) <;> omega
      omega
    · have := used_del_mem h
      split
      · omega
      · rw [used_cons']; omega
end Go.Sto
namespace Go.Proofs.Ytobgiialecgpnaa
open Go.ChangeShapes Go.WideShapes Go.ChangeAt Go.RowKit Go.Base Go.Sto Go.Maps

section
variable {w w1 w' : World} {F G : Nat → Prop} {p bm : Nat} {D : DataW Unit} {es : List Ent} {room : Nat} {left : Int}
theorem kept_cell {q : Nat → Prop} {w w' : World} {k : Nat} {v : Value} {t : TypeId} (h : w.heap[k]? = some (.cells #[v] t (0, 0))) (hm : Moved q w w') (hn : ¬ q k) : w'.heap[k]? = some (.cells #[v] t (0, 0)) ∧ w'.cell? ⟨k, 0, none⟩ = some v :=
  ⟨hm.heap h hn, cell_of_row _ _ 0 _ _ _ (hm.heap h hn)⟩
def RenPost (F : Nat → Prop) (p bm a : Nat) (files : List Fil) (room : Nat) (left : Int) (w : World) (e : Ending) (w' : World) : Prop :=
  e = .returned (.tuple #[]) ∧ (∃ D es, StoX w' F p bm D es room left ∧ es.map (·.f) = files) ∧ Moved (fun k => k = a ∨ k = bm) w w'
set_option maxHeartbeats 4000000 in
set_option maxRecDepth 20000 in
theorem renc_any (h : StoX w F p bm D es room left) (s t : ByteArray) (hs : s.size ≤ maxLen) (ht : t.size ≤ maxLen) (hto : okName t.data.toList = true) {e : Ent} (he : e ∈ es) (hn : e.f.name = s.data.toList) (k0 k1 k2 : Nat)
    (b0 : w.heap[k0]? = some (.cells #[.pointer (some ⟨p, 0, none⟩)] 23 (0, 0))) (b1 : w.heap[k1]? = some (.cells #[.string s] 9 (0, 0))) (b2 : w.heap[k2]? = some (.cells #[.string t] 9 (0, 0))) :
    Calls Try.prog 44 #[.pointer (some ⟨e.a, 0, none⟩), .pointer (some ⟨k0, 0, none⟩), .pointer (some ⟨k1, 0, none⟩), .pointer (some ⟨k2, 0, none⟩)] w
      (RenPost F p bm e.a (ins ⟨t.data.toList, e.f.bytes, e.f.bytes.length, true⟩ (del s.data.toList (es.map (·.f)))) room left w) := by
  have HS := Lib.hid (settle_any e.a e.f.bytes.length e.c e.f.sure e.A e.f.stays w (h.file e he))
  have HX := Lib.hid (fun en w1 (hp : FilePost e.a (.slice e.A e.f.bytes.length e.c) e.f.bytes.length true w en w1) => h.refile he (Nat.le_refl _) (Nat.le_refl _) hp)
  have n0 : k0 ≠ e.a := block_ne b0 (h.file e he) (by decide)
  have n1 : k1 ≠ e.a := block_ne b1 (h.file e he) (by decide)
  have n2 : k2 ≠ e.a := block_ne b2 (h.file e he) (by decide)
  have m0 : k0 ≠ bm := fun e => h.bm_ne b0 e.symm
  have m1 : k1 ≠ bm := fun e => h.bm_ne b1 e.symm
  have m2 : k2 ≠ bm := fun e => h.bm_ne b2 e.symm
  have H0 := Lib.hid h
  have HE := Lib.hid he
  have HN := Lib.hid hn
  have B0 := Lib.hid b0
  have B1 := Lib.hid b1
  have B2 := Lib.hid b2
  have NN := Lib.hid (And.intro n0 (And.intro n1 (And.intro n2 (And.intro m0 (And.intro m1 m2)))))
  clear h he hn b0 b1 b2 n0 n1 n2 m0 m1 m2
  go_enter Try.func44, Try.ntmps44
  go_wp2_with (go_at_call 41; refine Calls.mono (by with_reducible exact HS.out) ?_; intro e' w2 hp; have HX2 := Lib.hid (HX.out e' w2 hp); obtain ⟨rfl, _, hm2, hz2⟩ := hp; have HM2 := Lib.hid hm2; have HZ2 := Lib.hid hz2; clear hm2 hz2)
  obtain ⟨n0, n1, n2, m0, m1, m2⟩ := NN.out
  have HM2d := Lib.hid HM2.out.drew
  have x0 := kept_cell B0.out HM2d.out n0
  have x1 := kept_cell B1.out HM2d.out n1
  have x2 := kept_cell B2.out HM2d.out n2
  have HX2d := Lib.hid (HX2.out.later (Below.refl w2.heap.size w2).drew)
  obtain ⟨w3, hrun3, hown3, hturn3⟩ := HX2d.out.map.drop law_str Try.underlying56 (key_str hs) 0
  have HM3 : Hid (Moved (fun k => k = bm) w2.drew w3) := Lib.hid (Moved.grown (p := fun k => k = bm) (Moved.refl _ w2.drew) hturn3.grown (fun k _ e => (Option.some.inj e).symm))
  have HX3 := Lib.hid (HX2d.out.drop s.data.toList HM3.out hown3 (HX2d.out.map.tidy law_str))
  have y0 := kept_cell x0.1 HM3.out m0
  have y1 := kept_cell x1.1 HM3.out m1
  have y2 := kept_cell x2.1 HM3.out m2
  have HS1 : Hid ((fun w' => w'.cell? ⟨k0, 0, none⟩ = some (.pointer (some ⟨p, 0, none⟩)) ∧ w'.cell? ⟨k1, 0, none⟩ = some (.string s) ∧ w'.cell? ⟨p, 0, none⟩ = some (.map (some bm))) w2.drew) := Lib.hid ⟨x0.2, x1.2, HX2d.out.cells.1⟩
  have HS3 : Hid ((fun w' => w'.cell? ⟨k0, 0, none⟩ = some (.pointer (some ⟨p, 0, none⟩)) ∧ w'.cell? ⟨k1, 0, none⟩ = some (.string s) ∧ w'.cell? ⟨p, 0, none⟩ = some (.map (some bm))) w3) := Lib.hid ⟨y0.2, y1.2, HX3.out.cells.1⟩
  have hD3 := (Below.refl w3.heap.size w3).drew
  have HX3d := Lib.hid (HX3.out.later hD3)
  have z0 := kept_cell y0.1 (Moved.drew (p := fun _ => False) (Moved.refl _ w3)) (fun h => h)
  have z2 := kept_cell y2.1 (Moved.drew (p := fun _ => False) (Moved.refl _ w3)) (fun h => h)
  obtain ⟨w5, hrun5, hown5, hturn5⟩ := HX3d.out.map.store law_str Try.underlying56 (by rw [HX3d.out.size]; have := HX3d.out.few; unfold maxLen; omega) (key_str ht) (ptrE_some e.a)
  have HM5 : Hid (Moved (fun k => k = bm) w3.drew w5) := Lib.hid (Moved.grown (p := fun k => k = bm) (Moved.refl _ w3.drew) hturn5.grown (fun k _ e => (Option.some.inj e).symm))
  have u0 := kept_cell z0.1 HM5.out m0
  have u2 := kept_cell z2.1 HM5.out m2
  have HS4 : Hid ((fun w' => w'.cell? ⟨k0, 0, none⟩ = some (.pointer (some ⟨p, 0, none⟩)) ∧ w'.cell? ⟨k2, 0, none⟩ = some (.string t) ∧ w'.cell? ⟨p, 0, none⟩ = some (.map (some bm))) w3.drew) := Lib.hid ⟨z0.2, z2.2, HX3d.out.cells.1⟩
  have HS5 : Hid ((fun w' => w'.cell? ⟨k0, 0, none⟩ = some (.pointer (some ⟨p, 0, none⟩)) ∧ w'.cell? ⟨k2, 0, none⟩ = some (.string t) ∧ w'.cell? ⟨p, 0, none⟩ = some (.map (some bm))) w5) := Lib.hid ⟨u0.2, u2.2, by
    have := HM5.out.heap HX3d.out.self (fun e => HX3d.out.bm_ne HX3d.out.self e.symm)
    exact cell_of_row _ _ 0 _ _ _ this⟩
  have HO5 := Lib.hid hown5
  have R3 := Lib.hid hrun3
  have R5 := Lib.hid hrun5
  clear hown3 hturn3 hown5 hturn5 hrun3 hrun5 x0 x1 x2 y0 y1 y2 z0 z2 u0 u2 n0 n1 n2 m0 m1 m2 hD3
  have hrun3 := R3.out
  refine wp_region_held_drew (S := (fun w' => w'.cell? ⟨k0, 0, none⟩ = some (.pointer (some ⟨p, 0, none⟩)) ∧ w'.cell? ⟨k1, 0, none⟩ = some (.string s) ∧ w'.cell? ⟨p, 0, none⟩ = some (.map (some bm)))) (by kernel_rfl) HS1.out (fun hHeld => ?_)
  refine wpAnyH_take (i := 0) (v := ?vv1) rfl (by kernel_rfl) (by kernel_rfl) (by kernel_rfl) (fun _ _ _ h => h) (Or.inl ⟨by rfl, ?hy1⟩) hHeld ?rr1
  case hy1 => (intro w' hSw; obtain ⟨g1, g2, g3⟩ := hSw; go_simp; try with_reducible rfl)
  try simp only [Act.put, List.setIfInBounds_toArray, List.set_cons_zero, List.set_cons_succ, List.getElem_toArray, List.getElem_cons_succ, List.getElem_cons_zero]
  refine wpAnyH_take (i := 1) (v := ?vv2) rfl (by kernel_rfl) (by kernel_rfl) (by kernel_rfl) (fun _ _ _ h => h) (Or.inl ⟨by rfl, ?hy2⟩) hHeld ?rr2
  case hy2 => (intro w' hSw; obtain ⟨g1, g2, g3⟩ := hSw; go_simp; try with_reducible rfl)
  try simp only [Act.put, List.setIfInBounds_toArray, List.set_cons_zero, List.set_cons_succ, List.getElem_toArray, List.getElem_cons_succ, List.getElem_cons_zero]
  refine wpAnyH_take (i := 2) (v := ?vv3) rfl (by kernel_rfl) (by kernel_rfl) (by kernel_rfl) (fun _ _ _ h => h) (Or.inl ⟨by rfl, ?hy3⟩) hHeld ?rr3
  case hy3 => (intro w' hSw; obtain ⟨g1, g2, g3⟩ := hSw; go_simp; try with_reducible rfl)
  try simp only [Act.put, List.setIfInBounds_toArray, List.set_cons_zero, List.set_cons_succ, List.getElem_toArray, List.getElem_cons_succ, List.getElem_cons_zero]
  refine wpAnyH_take (i := 3) (v := ?vv4) rfl (by kernel_rfl) (by kernel_rfl) (by kernel_rfl) (fun _ _ _ h => h) (Or.inl ⟨by rfl, ?hy4⟩) hHeld ?rr4
  case hy4 => (intro w' hSw; obtain ⟨g1, g2, g3⟩ := hSw; go_simp; try with_reducible rfl)
  try simp only [Act.put, List.setIfInBounds_toArray, List.set_cons_zero, List.set_cons_succ, List.getElem_toArray, List.getElem_cons_succ, List.getElem_cons_zero]
  refine wpAnyH_take (i := 4) (v := ?vv5) rfl (by kernel_rfl) (by kernel_rfl) (by kernel_rfl) (fun _ _ _ h => h) (Or.inl ⟨by rfl, ?hy5⟩) hHeld ?rr5
  case hy5 => (intro w' hSw; obtain ⟨g1, g2, g3⟩ := hSw; go_simp; try with_reducible rfl)
  try simp only [Act.put, List.setIfInBounds_toArray, List.set_cons_zero, List.set_cons_succ, List.getElem_toArray, List.getElem_cons_succ, List.getElem_cons_zero]
  refine wpAnyH_ready (rs := [5]) (by kernel_rfl) (by simp) ?_
  refine AllReadyH.cons rfl (fun K hK => ?_) AllReadyH.nil
  try rw [if_pos (by rfl)]
  go_simp
  refine hK.out _ _ HS3.out (fun hHeld2 => ?_)
  clear hK K hHeld
  have hHeld := hHeld2
  clear hHeld2
  try simp only [Act.put, List.setIfInBounds_toArray, List.set_cons_zero, List.set_cons_succ, List.getElem_toArray, List.getElem_cons_succ, List.getElem_cons_zero]
  refine wpAnyH_done (by kernel_rfl) ?_ _
  clear hHeld
  clear hrun3
  have hrun5 := R5.out
  go_wp2_with fail
  refine wp_region_held_drew (S := (fun w' => w'.cell? ⟨k0, 0, none⟩ = some (.pointer (some ⟨p, 0, none⟩)) ∧ w'.cell? ⟨k2, 0, none⟩ = some (.string t) ∧ w'.cell? ⟨p, 0, none⟩ = some (.map (some bm)))) (by kernel_rfl) HS4.out (fun hHeld => ?_)
  refine wpAnyH_take (i := 0) (v := ?vv6) rfl (by kernel_rfl) (by kernel_rfl) (by kernel_rfl) (fun _ _ _ h => h) (Or.inl ⟨by rfl, ?hy6⟩) hHeld ?rr6
  case hy6 => (intro w' hSw; obtain ⟨g1, g2, g3⟩ := hSw; go_simp; try with_reducible rfl)
  try simp only [Act.put, List.setIfInBounds_toArray, List.set_cons_zero, List.set_cons_succ, List.getElem_toArray, List.getElem_cons_succ, List.getElem_cons_zero]
  refine wpAnyH_take (i := 1) (v := ?vv7) rfl (by kernel_rfl) (by kernel_rfl) (by kernel_rfl) (fun _ _ _ h => h) (Or.inl ⟨by rfl, ?hy7⟩) hHeld ?rr7
  case hy7 => (intro w' hSw; obtain ⟨g1, g2, g3⟩ := hSw; go_simp; try with_reducible rfl)
  try simp only [Act.put, List.setIfInBounds_toArray, List.set_cons_zero, List.set_cons_succ, List.getElem_toArray, List.getElem_cons_succ, List.getElem_cons_zero]
  refine wpAnyH_take (i := 2) (v := ?vv8) rfl (by kernel_rfl) (by kernel_rfl) (by kernel_rfl) (fun _ _ _ h => h) (Or.inl ⟨by rfl, ?hy8⟩) hHeld ?rr8
  case hy8 => (intro w' hSw; obtain ⟨g1, g2, g3⟩ := hSw; go_simp; try with_reducible rfl)
  try simp only [Act.put, List.setIfInBounds_toArray, List.set_cons_zero, List.set_cons_succ, List.getElem_toArray, List.getElem_cons_succ, List.getElem_cons_zero]
  refine wpAnyH_take (i := 3) (v := ?vv9) rfl (by kernel_rfl) (by kernel_rfl) (by kernel_rfl) (fun _ _ _ h => h) (Or.inl ⟨by rfl, ?hy9⟩) hHeld ?rr9
  case hy9 => (intro w' hSw; obtain ⟨g1, g2, g3⟩ := hSw; go_simp; try with_reducible rfl)
  try simp only [Act.put, List.setIfInBounds_toArray, List.set_cons_zero, List.set_cons_succ, List.getElem_toArray, List.getElem_cons_succ, List.getElem_cons_zero]
  refine wpAnyH_take (i := 4) (v := ?vv10) rfl (by kernel_rfl) (by kernel_rfl) (by kernel_rfl) (fun _ _ _ h => h) (Or.inl ⟨by rfl, ?hy10⟩) hHeld ?rr10
  case hy10 => (intro w' hSw; obtain ⟨g1, g2, g3⟩ := hSw; go_simp; try with_reducible rfl)
  try simp only [Act.put, List.setIfInBounds_toArray, List.set_cons_zero, List.set_cons_succ, List.getElem_toArray, List.getElem_cons_succ, List.getElem_cons_zero]
  refine wpAnyH_take (i := 5) (v := ?vv11) rfl (by kernel_rfl) (by kernel_rfl) (by kernel_rfl) (fun _ _ _ h => h) (Or.inl ⟨by rfl, ?hy11⟩) hHeld ?rr11
  case hy11 => (intro w' hSw; obtain ⟨g1, g2, g3⟩ := hSw; go_simp; try with_reducible rfl)
  try simp only [Act.put, List.setIfInBounds_toArray, List.set_cons_zero, List.set_cons_succ, List.getElem_toArray, List.getElem_cons_succ, List.getElem_cons_zero]
  refine wpAnyH_ready (rs := [6]) (by kernel_rfl) (by simp) ?_
  refine AllReadyH.cons rfl (fun K hK => ?_) AllReadyH.nil
  try rw [if_pos (by rfl)]
  go_simp
  refine hK.out _ _ HS5.out (fun hHeld2 => ?_)
  clear hK K hHeld
  have hHeld := hHeld2
  clear hHeld2
  try simp only [Act.put, List.setIfInBounds_toArray, List.set_cons_zero, List.set_cons_succ, List.getElem_toArray, List.getElem_cons_succ, List.getElem_cons_zero]
  refine wpAnyH_done (by kernel_rfl) ?_ _
  clear hHeld
  clear hrun5
  go_wp2
  go_returns
  have h3 := HX3d.out
  have hr2 := HX2.out.rising
  have hl0 : e.f.bytes.take e.f.bytes.length = e.f.bytes := List.take_length
  have he1 : (⟨⟨e.f.name, e.f.bytes.take e.f.bytes.length, e.f.bytes.length, true⟩, e.a, e.A, e.c⟩ : Ent) ∈ insE ⟨⟨e.f.name, e.f.bytes.take e.f.bytes.length, e.f.bytes.length, true⟩, e.a, e.A, e.c⟩ es := (mem_insE H0.out.rising).2 (.inl rfl)
  have hea : e.a ≠ bm := fun e2 => H0.out.bm_ne (H0.out.file e HE.out) e2.symm
  have hf2 := HX2.out.file _ he1
  have hw2 := HX2.out.row _ he1
  have hin := HX2.out.inF.2.2 _ he1
  simp only [Ent.cells, Ent.sl, hl0] at hf2 hw2 hin
  have hm25 : Moved (fun k => k = bm) w2 w5 := (((Moved.refl (fun k => k = bm) w2).drew.trans HM3.out (fun k _ h => h)).drew).trans HM5.out (fun k _ h => h)
  have hd : ∀ d, d ∈ delE s.data.toList (insE ⟨⟨e.f.name, e.f.bytes.take e.f.bytes.length, e.f.bytes.length, true⟩, e.a, e.A, e.c⟩ es) → d ∈ insE ⟨⟨e.f.name, e.f.bytes.take e.f.bytes.length, e.f.bytes.length, true⟩, e.a, e.A, e.c⟩ es ∧ d.f.name ≠ e.f.name := fun d hd => by
    have := mem_delE.1 hd
    rw [← HN.out] at this
    exact this
  have hT := h3.map.tidy law_str
  have hhs : Maps.has D (.string s.data.toList) = true := (HX2.out.has _).2 ⟨_, he1, HN.out⟩
  have hsd := Maps.size_del (k := .string s.data.toList) (HX2.out.map.tidy law_str)
  rw [hhs, if_pos rfl] at hsd
  have h64 := HX2.out.few
  have hs2 := HX2.out.size
  have hs3 := h3.size
  have hname : e.f.name = s.data.toList := HN.out
  have hmapf : (delE s.data.toList (insE ⟨⟨e.f.name, e.f.bytes.take e.f.bytes.length, e.f.bytes.length, true⟩, e.a, e.A, e.c⟩ es)).map (·.f) = del s.data.toList (es.map (·.f)) := by
    rw [map_delE, map_insE, ← hname]
    exact del_ins ⟨e.f.name, e.f.bytes.take e.f.bytes.length, e.f.bytes.length, true⟩ _
  have hle : (insE ⟨⟨t.data.toList, e.f.bytes, e.f.bytes.length, true⟩, e.a, e.A, e.c⟩ (delE s.data.toList (insE ⟨⟨e.f.name, e.f.bytes.take e.f.bytes.length, e.f.bytes.length, true⟩, e.a, e.A, e.c⟩ es))).length = if Maps.has (D.del (.string s.data.toList)) (.string t.data.toList) = true then Maps.size (D.del (.string s.data.toList)) else Maps.size (D.del (.string s.data.toList)) + 1 := by
    by_cases hh : Maps.has (D.del (.string s.data.toList)) (.string t.data.toList) = true
    · rw [if_pos hh, hs3]
      exact length_insE h3.rising ((h3.has _).1 hh)
    · rw [if_neg hh, hs3]
      have := congrArg List.length (map_insE ⟨⟨t.data.toList, e.f.bytes, e.f.bytes.length, true⟩, e.a, e.A, e.c⟩ (delE s.data.toList (insE ⟨⟨e.f.name, e.f.bytes.take e.f.bytes.length, e.f.bytes.length, true⟩, e.a, e.A, e.c⟩ es)))
      rw [List.length_map, length_ins_new (fun g hg => by obtain ⟨d, hd, rfl⟩ := List.mem_map.1 hg; exact fun e2 => hh ((h3.has _).2 ⟨d, hd, e2⟩)), List.length_map] at this
      exact this
  refine ⟨rfl, ⟨_, _, h3.set ⟨⟨t.data.toList, e.f.bytes, e.f.bytes.length, true⟩, e.a, e.A, e.c⟩ HM5.out (fun d hd _ => ⟨fun e2 => h3.bm_ne (h3.file d hd) e2.symm, fun k hk e2 => (h3.p_ne hd).2 (.inr (by rw [hk, e2]))⟩) (HM5.out.heap h3.self (fun e2 => h3.bm_ne h3.self e2.symm)) ?_ (fun r => ?_)
    (fun z => Maps.atKey_put_same hT.isMap (by trivial) _ z) (fun r hr z => Maps.atKey_put_other (by intro e; injection e with e; exact hr e) _ z) ?_ ?_ ?_ (fun d hd' _ => ?_) (fun _ h => h) ?_ ?_ ?_ (Nat.le_refl _) hto h3.lefts, ?_⟩, ?_⟩
  · obtain ⟨E, clock, hb, Fi, hle, hD⟩ := HO5.out
    refine ⟨E, clock, hb, Fi, ?_, hD⟩
    rw [hD]; exact Nat.le_of_eq (length_read E).symm
  · by_cases e2 : r = t.data.toList
    · subst e2
      rw [Maps.has_put_same hT.isMap (by trivial)]
      exact ⟨fun _ => .inl rfl, fun _ => rfl⟩
    · rw [Maps.has_put_other (by intro h; injection h with h; exact e2 h)]
      exact ⟨.inr, fun h => h.elim (fun h => absurd h e2) id⟩
  · rw [Maps.size_put hT, hle]
  · exact hm25.heap hf2 hea
  · refine own_moved hw2 hm25 (fun k hk e2 => ?_)
    have := (HX2.out.p_ne he1).2
    have hk2 : (Value.slice e.A e.f.bytes.length e.c).ownBlock = some k := hk
    exact this (.inr (by simp only [Ent.sl, hl0]; rw [hk2, e2]))
  · obtain ⟨h1, h2⟩ := hd d hd'
    have := HX2.out.apart d h1 _ he1 h2
    simp only [Ent.sl, hl0] at this
    exact this
  · exact hin
  · rw [hle]; split <;> omega
  · rw [hmapf]
    have h1 := used_ins_le ⟨t.data.toList, e.f.bytes, e.f.bytes.length, true⟩ (del s.data.toList (es.map (·.f)))
    have h2 := used_del_mem (List.mem_map.2 ⟨e, HE.out, rfl⟩ : e.f ∈ es.map (·.f))
    rw [hname] at h2
    have h4 := H0.out.fits.1
    exact Nat.le_trans h1 (Nat.le_trans h2 h4)
  · rw [map_insE, hmapf]
  · exact (HM2.out.weaken (fun k _ h => .inl h)).trans hm25 (fun k _ h => .inr h)
end
end Go.Proofs.Ytobgiialecgpnaa
