/- Package store: a store with one file set, or one taken away. No function of the program. -/
import Derived.Test.YtobgiialecgpnaaStoE
set_option linter.unusedSimpArgs false
set_option linter.unusedVariables false
namespace Go.Proofs.Ytobgiialecgpnaa
open Go.ChangeShapes Go.WideShapes Go.ChangeAt Go.RowKit Go.Base Go.Sto

/-- An entry in its place, for any other one of its name. -/
def insE (e : Ent) : List Ent → List Ent
  | [] => [e]
  | g :: l => if e.f.name = g.f.name then e :: l else if e.f.name < g.f.name then e :: g :: l else g :: insE e l
def delE (s : List UInt8) (l : List Ent) : List Ent := l.filter (fun e => !(e.f.name == s))
theorem map_insE (e : Ent) : ∀ l : List Ent, (insE e l).map (·.f) = ins e.f (l.map (·.f))
  | [] => rfl
  | g :: l => by
    unfold insE
    simp only [List.map_cons, ins]
    split
    · rfl
    · split
      · rfl
      · rw [List.map_cons, map_insE e l]
theorem map_delE (s : List UInt8) (l : List Ent) : (delE s l).map (·.f) = del s (l.map (·.f)) := by
  unfold delE del
  rw [List.filter_map]; rfl
theorem mem_insE {e d : Ent} : ∀ {l : List Ent}, Rising (l.map (·.f)) → (d ∈ insE e l ↔ d = e ∨ (d ∈ l ∧ d.f.name ≠ e.f.name))
  | [], _ => by simp [insE]
  | g :: l, h => by
    obtain ⟨h1, h2⟩ := List.pairwise_cons.1 h
    have h1' : ∀ x ∈ l, g.f.name < x.f.name := fun x hx => h1 _ (List.mem_map.2 ⟨x, hx, rfl⟩)
    unfold insE
    by_cases e1 : e.f.name = g.f.name
    · rw [if_pos e1]
      simp only [List.mem_cons]
      constructor
      · rintro (rfl | hd)
        · exact .inl rfl
        · exact .inr ⟨.inr hd, fun e2 => lt_irr g.f.name (by have := h1' d hd; rw [e2, e1] at this; exact this)⟩
      · rintro (rfl | ⟨rfl | hd, hne⟩)
        · exact .inl rfl
        · exact absurd e1.symm hne
        · exact .inr hd
    · rw [if_neg e1]
      by_cases e2 : e.f.name < g.f.name
      · rw [if_pos e2]
        simp only [List.mem_cons]
        constructor
        · rintro (rfl | rfl | hd)
          · exact .inl rfl
          · exact .inr ⟨.inl rfl, fun e3 => e1 e3.symm⟩
          · exact .inr ⟨.inr hd, fun e3 => lt_irr e.f.name (by have := lt_tr e2 (h1' d hd); rw [e3] at this; exact this)⟩
        · rintro (rfl | ⟨rfl | hd, _⟩)
          · exact .inl rfl
          · exact .inr (.inl rfl)
          · exact .inr (.inr hd)
      · rw [if_neg e2]
        simp only [List.mem_cons, mem_insE h2]
        constructor
        · rintro (rfl | rfl | ⟨hd, hne⟩)
          · exact .inr ⟨.inl rfl, fun e3 => e1 e3.symm⟩
          · exact .inl rfl
          · exact .inr ⟨.inr hd, hne⟩
        · rintro (rfl | ⟨rfl | hd, hne⟩)
          · exact .inr (.inl rfl)
          · exact .inl rfl
          · exact .inr (.inr ⟨hd, hne⟩)
theorem mem_delE {s : List UInt8} {d : Ent} {l : List Ent} : d ∈ delE s l ↔ d ∈ l ∧ d.f.name ≠ s := by
  unfold delE; simp
section
variable {w w' : World} {F : Nat → Prop} {p bm : Nat} {D : DataW Unit} {es : List Ent} {room : Nat} {left : Int}
/-- One entry to a name. -/
theorem StoX.one (h : StoX w F p bm D es room left) {d e : Ent} (hd : d ∈ es) (he : e ∈ es) (hn : d.f.name = e.f.name) : d = e := by
  have hr := h.rising
  unfold Rising at hr
  rw [List.pairwise_map] at hr
  rcases List.getElem_of_mem hd with ⟨i, hi, rfl⟩
  rcases List.getElem_of_mem he with ⟨j, hj, rfl⟩
  rcases Nat.lt_trichotomy i j with hij | hij | hij
  · have := List.pairwise_iff_getElem.1 hr i j hi hj hij; rw [hn] at this; exact absurd this (lt_irr _)
  · subst hij; rfl
  · have := List.pairwise_iff_getElem.1 hr j i hj hi hij; rw [hn] at this; exact absurd this (lt_irr _)
theorem StoX.bm_ne (h : StoX w F p bm D es room left) {k : Nat} {cs : Array Value} {t : TypeId} {z : Nat × Nat} (hk : w.heap[k]? = some (.cells cs t z)) : bm ≠ k := fun e => by
  obtain ⟨E, clock, hb, _⟩ := h.map
  rw [e, hk] at hb; cases hb
/-- What lies otherwise than a file and its bytes. -/
theorem StoX.others (h : StoX w F p bm D es room left) {d e : Ent} (hd : d ∈ es) (he : e ∈ es) (hn : d.f.name ≠ e.f.name) :
    ¬ (d.a = e.a ∨ e.sl.ownBlock = some d.a) ∧ ∀ k, d.sl.ownBlock = some k → ¬ (k = e.a ∨ e.sl.ownBlock = some k) := by
  obtain ⟨h1, h2⟩ := h.apart d hd e he hn
  refine ⟨?_, fun k hk => ?_⟩
  · rintro (e1 | e1)
    · exact h1 e1
    · exact own_ne (h.row e he) (h.file d hd) (by decide) e1
  · rintro (e1 | e1)
    · exact own_ne (h.row d hd) (h.file e he) (by decide) (by rw [hk, e1])
    · exact h2 k hk e1
theorem StoX.p_ne (h : StoX w F p bm D es room left) {e : Ent} (he : e ∈ es) : ¬ (p = e.a ∨ e.sl.ownBlock = some p) ∧ ¬ (bm = e.a ∨ e.sl.ownBlock = some bm) := by
  refine ⟨?_, ?_⟩
  · rintro (e1 | e1)
    · exact block_ne h.self (h.file e he) (by decide) e1
    · exact own_ne (h.row e he) h.self (by decide) e1
  · rintro (e1 | e1)
    · exact h.bm_ne (h.file e he) e1
    · rcases (h.row e he).2 with ⟨h0, _⟩ | ⟨g, cap, cur, h0, _, hg, _⟩
      · rw [h0] at e1; cases e1
      · rw [h0] at e1; injection e1 with e1; exact h.bm_ne hg e1.symm
/-- A file set: in the place of any other one of its name. -/
theorem StoX.set (h : StoX w F p bm D es room left) {q G : Nat → Prop} {D' : DataW Unit} {left' : Int} (e : Ent) (hm : Moved q w w')
    (hq : ∀ d ∈ es, d.f.name ≠ e.f.name → ¬ q d.a ∧ ∀ k, d.sl.ownBlock = some k → ¬ q k)
    (hself : w'.heap[p]? = some (.cells #[.map (some bm), .int .i64 (room : Int), .int .i64 left'] 58 (0, 0)))
    (hmap : w'.ownsMap Try.prog 9 ptrE bm (Maps.size D') D')
    (hhas : ∀ s, Maps.has D' (.string s) = true ↔ s = e.f.name ∨ Maps.has D (.string s) = true)
    (hat : ∀ z, D'.atKey (.string e.f.name) z = .lit (.int .i64 (e.a : Int)))
    (hat2 : ∀ s, s ≠ e.f.name → ∀ z, D'.atKey (.string s) z = D.atKey (.string s) z)
    (hsize : Maps.size D' = (insE e es).length)
    (hfile : w'.heap[e.a]? = some (.cells e.cells 67 (0, 0)))
    (hrow : w'.ownsRow 0 5 1 e.sl e.f.bytes.length (e.f.bytes.map u8v))
    (hfresh : ∀ d ∈ es, d.f.name ≠ e.f.name → d.a ≠ e.a ∧ ∀ k, d.sl.ownBlock = some k → ¬ e.sl.ownBlock = some k)
    (hF : ∀ k, F k → G k) (hG : G e.a ∧ ∀ k, e.sl.ownBlock = some k → G k)
    (hfew : (insE e es).length ≤ 64) (hfit : used (ins e.f (es.map (·.f))) ≤ room) (hsure : e.f.sure ≤ e.f.bytes.length) (hok : okName e.f.name = true)
    (hl : -9223372036854775808 ≤ left' ∧ left' ≤ 9223372036854775807) : StoX w' G p bm D' (insE e es) room left' := by
  have hR := h.rising
  have hM := fun d => @mem_insE e d es hR
  refine ⟨hself, hmap, fun s => ?_, fun d hd z => ?_, hsize, fun d hd => ?_, fun d hd => ?_, fun d hd d' hd' hn => ?_, ⟨hF _ h.inF.1, hF _ h.inF.2.1, fun d hd => ?_⟩, hfew, ?_, ⟨?_, h.fits.2⟩, fun d hd => ?_, fun d hd => ?_, hl⟩
  · rw [hhas s, h.has s]
    constructor
    · rintro (rfl | ⟨d, hd, rfl⟩)
      · exact ⟨e, (hM e).2 (.inl rfl), rfl⟩
      · by_cases hn : d.f.name = e.f.name
        · exact ⟨e, (hM e).2 (.inl rfl), hn.symm⟩
        · exact ⟨d, (hM d).2 (.inr ⟨hd, hn⟩), rfl⟩
    · rintro ⟨d, hd, rfl⟩
      rcases (hM d).1 hd with rfl | ⟨hd, _⟩
      · exact .inl rfl
      · exact .inr ⟨d, hd, rfl⟩
  · rcases (hM d).1 hd with rfl | ⟨hd, hn⟩
    · exact hat z
    · rw [hat2 _ hn]; exact h.at_ d hd z
  · rcases (hM d).1 hd with rfl | ⟨hd, hn⟩
    · exact hfile
    · exact hm.heap (h.file d hd) (hq d hd hn).1
  · rcases (hM d).1 hd with rfl | ⟨hd, hn⟩
    · exact hrow
    · exact own_moved (h.row d hd) hm (hq d hd hn).2
  · rcases (hM d).1 hd with e1 | ⟨hd1, hn1⟩
    · rcases (hM d').1 hd' with e2 | ⟨hd2, hn2⟩
      · exact absurd (by rw [e1, e2]) hn
      · obtain ⟨h1, h2⟩ := hfresh d' hd2 hn2
        rw [e1]
        exact ⟨fun e => h1 e.symm, fun k hk hk' => h2 k hk' hk⟩
    · rcases (hM d').1 hd' with e2 | ⟨hd2, hn2⟩
      · rw [e2]; exact hfresh d hd1 hn1
      · exact h.apart d hd1 d' hd2 hn
  · rcases (hM d).1 hd with rfl | ⟨hd, hn⟩
    · exact hG
    · exact ⟨hF _ (h.inF.2.2 d hd).1, fun k hk => hF _ ((h.inF.2.2 d hd).2 k hk)⟩
  · rw [map_insE]; exact rising_ins hR
  · rw [map_insE]; exact hfit
  · rcases (hM d).1 hd with rfl | ⟨hd, hn⟩
    · exact hsure
    · exact h.sures d hd
  · rcases (hM d).1 hd with rfl | ⟨hd, hn⟩
    · exact hok
    · exact h.named d hd
theorem used_del (s : List UInt8) : ∀ l : List Fil, used (del s l) ≤ used l
  | [] => Nat.le_refl _
  | f :: l => by
    have := used_del s l
    unfold used del at *
    rw [List.filter_cons]
    split
    · simp only [List.map_cons, List.sum_cons]; omega
    · simp only [List.map_cons, List.sum_cons]; omega
/-- A file taken away. -/
theorem StoX.drop (h : StoX w F p bm D es room left) (s : List UInt8) (hm : Moved (fun k => k = bm) w w') (hmap : w'.ownsMap Try.prog 9 ptrE bm (Maps.size D) (D.del (.string s))) (hT : Maps.Tidy D) : StoX w' F p bm (D.del (.string s)) (delE s es) room left := by
  have hM := fun d => @mem_delE s d es
  have hn : ∀ k cs t z, w.heap[k]? = some (.cells cs t z) → ¬ k = bm := fun k cs t z hk e => h.bm_ne hk e.symm
  have hsz : Maps.size (D.del (.string s)) = (delE s es).length := by
    have h1 := Maps.size_del (k := .string s) hT
    have h2 := h.size
    have h3 : (delE s es).length + (if Maps.has D (.string s) = true then 1 else 0) = es.length := by
      have hr := h.rising
      have hh := h.has s
      clear hM hn h1 h2
      have hone : ∀ d ∈ es, ∀ e ∈ es, d.f.name = e.f.name → d = e := fun d hd e he => h.one hd he
      have hnd : es.Pairwise (fun d e => d.f.name ≠ e.f.name) := by
        unfold Rising at hr
        rw [List.pairwise_map] at hr
        exact hr.imp (by intro a b hlt e; rw [e] at hlt; exact lt_irr _ hlt)
      clear hone hr h hmap hm hT
      generalize Maps.has D (.string s) = hb at hh
      unfold delE
      induction es generalizing hb with
      | nil =>
        have : hb = false := by
          cases hb
          · rfl
          · obtain ⟨e, he, _⟩ := hh.1 rfl; cases he
        rw [this]; rfl
      | cons x l ih =>
        obtain ⟨h1, h2⟩ := List.pairwise_cons.1 hnd
        rw [List.filter_cons]
        by_cases e1 : x.f.name = s
        · have : hb = true := hh.2 ⟨x, List.mem_cons_self .., e1⟩
          have hl : l.filter (fun e => !(e.f.name == s)) = l := List.filter_eq_self.2 fun d hd => by
            have := h1 d hd
            rw [e1] at this
            simpa using fun e2 => this e2.symm
          rw [if_neg (by simp [e1]), hl, this]; rfl
        · have := ih h2 hb ⟨fun h => by
            obtain ⟨d, hd, e⟩ := hh.1 h
            rcases List.mem_cons.1 hd with rfl | hd
            · exact absurd e e1
            · exact ⟨d, hd, e⟩, fun ⟨d, hd, e⟩ => hh.2 ⟨d, List.mem_cons_of_mem _ hd, e⟩⟩
          rw [if_pos (by simpa using e1), List.length_cons, List.length_cons]
          omega
    omega
  refine ⟨hm.heap h.self (hn _ _ _ _ h.self), ?_, fun t => ?_, fun d hd z => ?_, hsz, fun d hd => ?_, fun d hd => ?_, fun d hd d' hd' => h.apart d ((hM d).1 hd).1 d' ((hM d').1 hd').1, ⟨h.inF.1, h.inF.2.1, fun d hd => h.inF.2.2 d ((hM d).1 hd).1⟩, ?_, ?_, ⟨?_, h.fits.2⟩, fun d hd => h.sures d ((hM d).1 hd).1, fun d hd => h.named d ((hM d).1 hd).1, h.lefts⟩
  · obtain ⟨E, clock, hb, Fi, hle, hD⟩ := hmap
    refine ⟨E, clock, hb, Fi, ?_, hD⟩
    rw [hD]; exact Nat.le_of_eq (length_read E).symm
  · by_cases e : t = s
    · subst e
      rw [Maps.has_del_same]
      constructor
      · intro h; cases h
      · rintro ⟨d, hd, e⟩; exact absurd e ((hM d).1 hd).2
    · rw [Maps.has_del_other (k := .string s) (k' := .string t) (by intro h; injection h with h; exact e h), h.has t]
      constructor
      · rintro ⟨d, hd, rfl⟩; exact ⟨d, (hM d).2 ⟨hd, e⟩, rfl⟩
      · rintro ⟨d, hd, rfl⟩; exact ⟨d, ((hM d).1 hd).1, rfl⟩
  · obtain ⟨hd, hne⟩ := (hM d).1 hd
    rw [Maps.atKey_del_other (k := .string s) (k' := .string d.f.name) (by intro h; injection h with h; exact hne h)]
    exact h.at_ d hd z
  · obtain ⟨hd, _⟩ := (hM d).1 hd
    exact hm.heap (h.file d hd) (hn _ _ _ _ (h.file d hd))
  · obtain ⟨hd, _⟩ := (hM d).1 hd
    exact own_moved (h.row d hd) hm (fun k hk e => (h.p_ne hd).2 (.inr (by rw [hk, e])))
  · have := h.few
    have := List.length_filter_le (fun e : Ent => !(e.f.name == s)) es
    show (List.filter _ _).length ≤ 64
    omega
  · rw [map_delE]; exact rising_del h.rising
  · rw [map_delE]; exact Nat.le_trans (used_del _ _) h.fits.1
end
end Go.Proofs.Ytobgiialecgpnaa
