/- Walk of package label: the parse of a text, part by part: the plain side, and what lies between two parts. -/
import Derived.Test.YtpkjllliidpgoaaGreatDoorLabR
set_option linter.unusedSimpArgs false
set_option linter.unusedVariables false
namespace Go.Proofs.YtpkjllliidpgoaaGreatDoor
open Go.ChangeShapes Go.WideShapes Go.ChangeAt Go.RowKit Go.Base Go.Lab Go.Shelf
attribute [local go_sem] Oper.semAt_some

def stepP (acc : List PC) (p : Bytes) : Except (Int × Nat) (List PC) :=
  if acc.length = 16 then .error (3, 16) else match parseClB (trimS p) with
  | none => .error (40, acc.length)
  | some c => if 16 < c.2.2.length then .error (3, acc.length) else .ok (acc ++ [c])
def foldP : List Bytes → List PC → Except (Int × Nat) (List PC)
  | [], acc => .ok acc
  | p :: ps, acc => match stepP acc p with
    | .error e => .error e
    | .ok acc' => foldP ps acc'
theorem foldP_append (a b : List Bytes) (acc : List PC) : foldP (a ++ b) acc = match foldP a acc with | .error e => .error e | .ok acc' => foldP b acc' := by
  induction a generalizing acc with
  | nil => rfl
  | cons p a ih =>
    simp only [List.cons_append, foldP]
    cases stepP acc p with
    | error e => rfl
    | ok acc' => exact ih acc'
theorem foldP_one {acc : List PC} {p : Bytes} : foldP [p] acc = stepP acc p := by
  simp only [foldP]; cases stepP acc p <;> rfl
theorem stepP_len {acc acc' : List PC} {p : Bytes} (h : stepP acc p = .ok acc') (ha : acc.length ≤ 16) : acc'.length ≤ 16 := by
  unfold stepP at h
  split at h
  · cases h
  · split at h
    · cases h
    · split at h
      · cases h
      · injection h with h; subst h; simp; omega
/-- What a text is as a selector, or why not, and where. -/
def parseB (l : Bytes) : Except (Int × Nat) (List PC) := if 512 < l.length then .error (3, 0) else if trimS l = [] then .ok [] else foldP (partsB 0 l) []

theorem row_kept {W W' : World} {row : Option Nat} {k : Nat} {cs : Array Value} {t : TypeId} {fr : Nat × Nat} (h : W.heap[k]? = some (.cells cs t fr)) (hg : W.grownBy W' row)
    (hr : ∀ r, row = some r → ∃ o : Obj, W.heap[r]? = some o ∧ o.isCells = false) : W'.heap[k]? = some (.cells cs t fr) :=
  (hg.block k (Array.getElem?_eq_some_iff.1 h).1 (fun e => by obtain ⟨o, ho, hc⟩ := hr k e.symm; rw [h] at ho; cases ho; cases hc)).trans h
theorem row_below {w w' : World} {B k : Nat} {x : Obj} (hb : Below B w w') (hk : k < B) (h : w.heap[k]? = some x) : w'.heap[k]? = some x := (hb.block k hk).trans h
theorem heap_at {w : World} {n : Nat} (o : Obj) (h : n = w.heap.size) : (w.alloc o).heap[n]? = some o := by subst h; exact heap_new w o
theorem keepsOthers_below {W W' : World} (h : Below W.heap.size W W') : KeepsOthers W W' := ⟨h.size, fun k o hk _ => (h.block k (Array.getElem?_eq_some_iff.1 hk).1).trans hk⟩

def clC (c : Cl) : List Value := [.int .i64 c.kind, strV c.key, .slice c.la c.vals.length c.lc]
def pcOf (c : Cl) : PC := (c.kind, c.key, c.vals)
/-- A row of the call's own that holds some clauses. -/
def CRows (W : World) (base : Nat) (acc : List PC) (v : Value) : Prop :=
  ∃ cs : List Cl, cs.map pcOf = acc ∧ W.ownsRow base 42 3 v acc.length (cs.flatMap clC) ∧ ∀ c ∈ cs, c.Fit W ∧ TyS W c.la
theorem Strs.kept {W W' : World} {row : Option Nat} {A : Option Addr} {l : List Bytes} (h : Strs W A l) (hg : W.grownBy W' row) (hr : ∀ r, row = some r → ∃ o : Obj, W.heap[r]? = some o ∧ o.isCells = false) : Strs W' A l := fun i hi => by
  obtain ⟨b, o, e, c, m⟩ := h i hi
  exact ⟨b, o, e, cell_kept c hg hr, m⟩
theorem Cl.Fit.kept {W W' : World} {row : Option Nat} {c : Cl} (h : c.Fit W) (hg : W.grownBy W' row) (hr : ∀ r, row = some r → ∃ o : Obj, W.heap[r]? = some o ∧ o.isCells = false) : c.Fit W' := ⟨h.k, h.v.kept hg hr, h.m, h.c⟩
theorem TyS.kept {W W' : World} {row : Option Nat} {la : Option Addr} (h : TyS W la) (hg : W.grownBy W' row) (hr : ∀ r, row = some r → ∃ o : Obj, W.heap[r]? = some o ∧ o.isCells = false) : TyS W' la := fun a e => by
  obtain ⟨cs, fz, hc⟩ := h a e
  exact ⟨cs, fz, row_kept hc hg hr⟩
theorem ownsRow_kept {W W' : World} {row : Option Nat} {base n size : Nat} {e : TypeId} {v : Value} {xs : List Value} (h : W.ownsRow base e size v n xs) (hg : W.grownBy W' row) (hr : ∀ r, row = some r → ∃ o : Obj, W.heap[r]? = some o ∧ o.isCells = false) : W'.ownsRow base e size v n xs := by
  refine ⟨h.1, ?_⟩
  rcases h.2 with h2 | ⟨g, cap, cur, h1, h2, h3, h4⟩
  · exact .inl h2
  · exact .inr ⟨g, cap, cur, h1, h2, row_kept h3 hg hr, h4⟩
theorem CRows.kept {W W' : World} {row : Option Nat} {base : Nat} {acc : List PC} {v : Value} (h : CRows W base acc v) (hg : W.grownBy W' row) (hr : ∀ r, row = some r → ∃ o : Obj, W.heap[r]? = some o ∧ o.isCells = false) : CRows W' base acc v := by
  obtain ⟨cs, h1, h2, h3⟩ := h
  exact ⟨cs, h1, ownsRow_kept h2 hg hr, fun c hc => ⟨(h3 c hc).1.kept hg hr, (h3 c hc).2.kept hg hr⟩⟩
theorem CRows.nil (W : World) (base : Nat) : CRows W base [] (.slice none 0 0) := ⟨[], rfl, ⟨rfl, .inl ⟨rfl, rfl⟩⟩, fun c hc => by cases hc⟩
theorem CRows.below {W W' : World} {base : Nat} {acc : List PC} {v : Value} (h : CRows W base acc v) (hb : Below W.heap.size W W') : CRows W' base acc v := by
  obtain ⟨cs, h1, h2, h3⟩ := h
  refine ⟨cs, h1, ⟨h2.1, ?_⟩, fun c hc => ⟨(h3 c hc).1.later hb, (h3 c hc).2.later hb⟩⟩
  rcases h2.2 with h4 | ⟨g, cap, cur, e1, e2, e3, e4⟩
  · exact .inl h4
  · exact .inr ⟨g, cap, cur, e1, e2, row_below hb (heap_lt e3) e3, e4⟩
/-- A store into a block of another type leaves the rows. -/
theorem CRows.set {W : World} {base : Nat} {acc : List PC} {v : Value} (h : CRows W base acc v) {k i : Nat} {cs : Array Value} {t : TypeId} {fz : Nat × Nat} (hk : W.heap[k]? = some (.cells cs t fz)) (ht : t ≠ 42) (hs : t ≠ 9) (u : Value) : CRows (W.setCell ⟨k, i, none⟩ u) base acc v := by
  obtain ⟨l, h1, h2, h3⟩ := h
  have o : ∀ j, j ≠ k → (W.setCell ⟨k, i, none⟩ u).heap[j]? = W.heap[j]? := fun j hj => Below.heap_setCell W ⟨k, i, none⟩ u j hj
  refine ⟨l, h1, ⟨h2.1, ?_⟩, fun c hc => ?_⟩
  · rcases h2.2 with h4 | ⟨g, cap, cur, e1, e2, e3, e4⟩
    · exact .inl h4
    · exact .inr ⟨g, cap, cur, e1, e2, (o g (block_ne e3 hk ht.symm)).trans e3, e4⟩
  · have hne : ∀ a, c.la = some a → a.block ≠ k := fun a e => by
      obtain ⟨cs', fz', hc'⟩ := (h3 c hc).2 a e
      exact block_ne hc' hk hs.symm
    exact ⟨(h3 c hc).1.other o hne, (h3 c hc).2.other o hne⟩
/-- One clause more in the row. -/
theorem crows_add {W W' : World} {base n : Nat} {cs : List Cl} {v v' : Value} {c : Cl} (h2 : W.ownsRow base 42 3 v n (cs.flatMap clC)) (h3 : ∀ c ∈ cs, c.Fit W ∧ TyS W c.la) (hn : cs.length = n)
    (hc : c.Fit W) (ht : TyS W c.la) (hg : W.grownBy W' v.ownBlock) (hown : W'.ownsRow base 42 3 v' (n + 1) (cs.flatMap clC ++ clC c)) : CRows W' base (cs.map pcOf ++ [pcOf c]) v' := by
  refine ⟨cs ++ [c], by rw [List.map_append]; rfl, ?_, fun d hd => ?_⟩
  · rw [List.length_append, List.flatMap_append, List.length_map, hn]
    simpa using hown
  · have key : d.Fit W ∧ TyS W d.la := by
      rcases List.mem_append.1 hd with hd | hd
      · exact h3 d hd
      · rw [List.mem_singleton.1 hd]; exact ⟨hc, ht⟩
    have o : ∀ b : Nat, (∃ (cs' : Array Value) (fz' : Nat × Nat), W.heap[b]? = some (Obj.cells cs' 9 fz')) → W'.heap[b]? = W.heap[b]? := by
      rintro b ⟨cs', fz', hb⟩
      exact hg.block b (heap_lt hb) (fun e => own_ne h2 hb (by decide) e.symm)
    refine ⟨⟨key.1.k, fun i hi => ?_, key.1.m, key.1.c⟩, fun a e => ?_⟩
    · obtain ⟨b, off, e, c0, m0⟩ := key.1.v i hi
      obtain ⟨cs', fz', hb⟩ := key.2 _ e
      exact ⟨b, off, e, (World.cell?_of_block (w := W) (a := ⟨b, _, none⟩) (o b ⟨_, _, hb⟩)).trans c0, m0⟩
    · obtain ⟨cs', fz', hb⟩ := key.2 a e
      exact ⟨cs', fz', (o _ ⟨_, _, hb⟩).trans hb⟩
theorem CRows.form {W : World} {base : Nat} {acc : List PC} {v : Value} (h : CRows W base acc v) : ∃ A cap, v = .slice A acc.length cap := by
  obtain ⟨cs, h1, h2, h3⟩ := h
  rcases h2.2 with ⟨h4, h5⟩ | ⟨g, cap, cur, e1, _⟩
  · rw [h5]; exact ⟨_, _, h4⟩
  · exact ⟨_, _, e1⟩
/-- A block of another type is none of the row's. -/
theorem own_other {W W' : World} {base n : Nat} {v : Value} {xs : List Value} {k : Nat} {cs : Array Value} {t : TypeId} {fz : Nat × Nat} (h2 : W.ownsRow base 42 3 v n xs) (hg : W.grownBy W' v.ownBlock) (hk : W.heap[k]? = some (.cells cs t fz)) (ht : t ≠ 42) : W'.heap[k]? = some (.cells cs t fz) :=
  (hg.block k (heap_lt hk) (fun e => own_ne h2 hk ht.symm e.symm)).trans hk
theorem own_cells {W : World} {base n : Nat} {v : Value} {xs : List Value} (h2 : W.ownsRow base 42 3 v n xs) (j : Nat) (o : Obj) (e : v.ownBlock = some j) (hj : W.heap[j]? = some o) : o.isCells = true := by
  rcases h2.2 with ⟨h4, _⟩ | ⟨g, cap, cur, e1, _, e3, _⟩
  · rw [h4] at e; cases e
  · rw [e1] at e; injection e with e
    have : g = j := e
    subst this
    rw [e3] at hj; injection hj with hj; subst hj; rfl
theorem own_base {W : World} {base n : Nat} {v : Value} {xs : List Value} (h2 : W.ownsRow base 42 3 v n xs) (k : Nat) (e : v.ownBlock = some k) : base ≤ k := by
  rcases h2.2 with ⟨h4, _⟩ | ⟨g, cap, cur, e1, e2, _⟩
  · rw [h4] at e; cases e
  · rw [e1] at e; injection e with e
    have : g = k := e
    omega

/-- Between two parts: what lies in the call's own blocks. -/
structure PaI {m : Nat} (w : World) (L : Nat) (pre : List (Part m)) (W : World) : Prop where
  r0 : W.heap[w.heap.size]? = some (.cells #[.slice none 0 0] 33 (0, 0))
  r1 : W.heap[w.heap.size + 1]? = some (.cells #[.int .i64 0] 23 (0, 0))
  r2 : W.heap[w.heap.size + 1 + 1]? = some (.cells #[.int .i64 0] 3 (0, 0))
  st : ∃ acc v, foldP (pre.map (·.1)) [] = .ok acc ∧ acc.length ≤ 16 ∧ W.heap[L]? = some (.cells #[v] 33 (0, 0)) ∧ CRows W w.heap.size acc v
  pt : ∃ s, W.heap[L + 1]? = some (.cells #[.string s] 9 (0, 0))
  big : L + 2 ≤ W.heap.size
  var : VarI W
/-- A part is at fault, or there is one too many. -/
structure PaX {m : Nat} (w : World) (c : Code) (pre : List (Part m)) (W : World) : Prop where
  ret : c = .ret
  bad : ∃ e' p, foldP (pre.map (·.1)) [] = .error (e', p) ∧ W.heap[w.heap.size]? = some (.cells #[.slice none 0 0] 33 (0, 0)) ∧ W.heap[w.heap.size + 1]? = some (.cells #[.int .i64 e'] 23 (0, 0)) ∧ W.heap[w.heap.size + 1 + 1]? = some (.cells #[.int .i64 (p : Nat)] 3 (0, 0))
theorem VarI.kept {W W' : World} {row : Option Nat} (h : VarI W) (hg : W.grownBy W' row) (hr : ∀ r, row = some r → ∃ o : Obj, W.heap[r]? = some o ∧ o.isCells = false) : VarI W' := by
  obtain ⟨m, h⟩ := h
  exact ⟨m, cell_kept h hg hr⟩
theorem paI_own {m : Nat} (w : World) (L : Nat) : Own (PaI (m := m) w L) := fun s A B row hs hg hr => by
  obtain ⟨r0, r1, r2, ⟨acc, v, h1, h2, r4, r5⟩, ⟨s, r6⟩, hbig, hv⟩ := hs
  exact ⟨row_kept r0 hg hr, row_kept r1 hg hr, row_kept r2 hg hr, ⟨acc, v, h1, h2, row_kept r4 hg hr, r5.kept hg hr⟩, ⟨s, row_kept r6 hg hr⟩, Nat.le_trans hbig hg.size, hv.kept hg hr⟩
theorem paX_own {m : Nat} (w : World) (c : Code) : Own (PaX (m := m) w c) := fun s A B row hs hg hr => by
  obtain ⟨rfl, ⟨e', p, h, r0, r1, r2⟩⟩ := hs
  exact ⟨rfl, ⟨e', p, h, row_kept r0 hg hr, row_kept r1 hg hr, row_kept r2 hg hr⟩⟩
theorem row_set {w : World} {g i : Nat} {cs : Array Value} {t : TypeId} (v : Value) (h : w.heap[g]? = some (.cells cs t (0, 0))) : (w.setCell ⟨g, i, none⟩ v).heap[g]? = some (.cells (cs.setIfInBounds i v) t (0, 0)) := heap_set h i v
theorem row_other {w : World} {g k i : Nat} {x : Obj} (v : Value) (hk : k ≠ g) (h : w.heap[k]? = some x) : (w.setCell ⟨g, i, none⟩ v).heap[k]? = some x := (Below.heap_setCell w ⟨g, i, none⟩ v k hk).trans h
theorem cells_alloc {W : World} {g : Nat} {cs : Array Value} {t : TypeId} (h : W.heap[g]? = some (.cells cs t (0, 0))) : (∀ o i, (W.alloc o).cell? ⟨g, i, none⟩ = cs[i]?) ∧ (∀ o i, (W.alloc o).frozen? ⟨g, i, none⟩ = false) :=
  ⟨fun o i => (cells_of_heap (heap_old o (heap_lt h) h)).1 i, fun o i => (cells_of_heap (heap_old o (heap_lt h) h)).2 i⟩
/-- The three results' blocks, behind the stores. -/
structure Fin3 (w W V : World) (v : Value) (e' p : Int) : Prop where
  o : KeepsOthers W V
  b : Below w.heap.size w V
  q0 : V.heap[w.heap.size]? = some (.cells #[v] 33 (0, 0))
  q1 : V.heap[w.heap.size + 1]? = some (.cells #[.int .i64 e'] 23 (0, 0))
  q2 : V.heap[w.heap.size + 1 + 1]? = some (.cells #[.int .i64 p] 3 (0, 0))
theorem fin_set {w W V : World} (v : Value) (e' p : Int) {a b c : Value} (ho : KeepsOthers W V) (hB : Below w.heap.size w V)
    (R0 : V.heap[w.heap.size]? = some (.cells #[a] 33 (0, 0))) (R1 : V.heap[w.heap.size + 1]? = some (.cells #[b] 23 (0, 0))) (R2 : V.heap[w.heap.size + 1 + 1]? = some (.cells #[c] 3 (0, 0))) :
    Fin3 w W (((V.setCell ⟨w.heap.size, 0, none⟩ v).setCell ⟨w.heap.size + 1, 0, none⟩ (.int .i64 e')).setCell ⟨w.heap.size + 1 + 1, 0, none⟩ (.int .i64 p)) v e' p :=
  ⟨((ho.trans (KeepsOthers.setCell _ _ _)).trans (KeepsOthers.setCell _ _ _)).trans (KeepsOthers.setCell _ _ _),
    ((hB.setCell (by simp) _).setCell (by simp) _).setCell (by simp; omega) _,
    row_other _ (by omega) (row_other _ (by omega) (row_set (i := 0) v R0)),
    row_other _ (by omega) (row_set (i := 0) (.int .i64 e') (row_other _ (by omega) R1)),
    row_set (i := 0) (.int .i64 p) (row_other _ (by omega) (row_other _ (by omega) R2))⟩
theorem Fin3.alloc {w W V : World} {v : Value} {e' p : Int} (h : Fin3 w W V v e' p) (o : Obj) : Fin3 w W (V.alloc o) v e' p :=
  ⟨h.o.trans (KeepsOthers.alloc _ _), h.b.alloc h.b.size _, heap_old _ (heap_lt h.q0) h.q0, heap_old _ (heap_lt h.q1) h.q1, heap_old _ (heap_lt h.q2) h.q2⟩
theorem fin_put {w W V : World} {v : Value} {e' p : Int} {D : Nat} (h : Fin3 w W V v e' p) (hK : V.heap[D]? = some (.deferred (some []))) (hD : w.heap.size ≤ D) :
    ((V.putObj D (.deferred none)).heap[w.heap.size]? = some (.cells #[v] 33 (0, 0)) ∧ (V.putObj D (.deferred none)).heap[w.heap.size + 1]? = some (.cells #[.int .i64 e'] 23 (0, 0)) ∧ (V.putObj D (.deferred none)).heap[w.heap.size + 1 + 1]? = some (.cells #[.int .i64 p] 3 (0, 0))) ∧ Below w.heap.size w (V.putObj D (.deferred none)) := by
  obtain ⟨h1, h2, r0, r1, r2⟩ := h
  exact ⟨⟨row_kept r0 (grownBy_putObj' _ D (.deferred none)) (fun r e => by cases e; exact ⟨_, hK, rfl⟩), row_kept r1 (grownBy_putObj' _ D (.deferred none)) (fun r e => by cases e; exact ⟨_, hK, rfl⟩), row_kept r2 (grownBy_putObj' _ D (.deferred none)) (fun r e => by cases e; exact ⟨_, hK, rfl⟩)⟩,
    h2.trans (belowK_b (w := w) (Nat.le_refl _) _ D _ _ hD hK rfl rfl)⟩
theorem fin_bad {m : Nat} {w W V : World} {pre : List (Part m)} {e' : Int} {p : Nat} (h : Fin3 w W V (.slice none 0 0) e' p) (hf : foldP (pre.map (·.1)) [] = .error (e', p)) : KeepsOthers W V ∧ PaX w .ret pre V ∧ Below w.heap.size w V :=
  ⟨h.o, ⟨rfl, e', p, hf, h.q0, h.q1, h.q2⟩, h.b⟩
theorem crows_fin {w W : World} {acc : List PC} {u v a b c : Value} {e' p : Value} {base : Nat} (h : CRows W base acc u)
    (R0 : W.heap[w.heap.size]? = some (.cells #[a] 33 (0, 0))) (R1 : W.heap[w.heap.size + 1]? = some (.cells #[b] 23 (0, 0))) (R2 : W.heap[w.heap.size + 1 + 1]? = some (.cells #[c] 3 (0, 0))) :
    CRows (((W.setCell ⟨w.heap.size, 0, none⟩ v).setCell ⟨w.heap.size + 1, 0, none⟩ e').setCell ⟨w.heap.size + 1 + 1, 0, none⟩ p) base acc u :=
  ((h.set R0 (by decide) (by decide) _).set (row_other _ (by omega) R1) (by decide) (by decide) _).set (row_other _ (by omega) (row_other _ (by omega) R2)) (by decide) (by decide) _
theorem parts_call (s : ByteArray) (w : World) : Calls Tryz.prog 37 #[.string s] w fun e w' => e = .returned (.func (.func 54) #[] #[.pointer (some ⟨w.heap.size, 0, none⟩)]) ∧ w' = w.alloc (.cells #[.string s] 9) := by
  go_enter Tryz.func37, Tryz.ntmps37
  go_wp2
  go_ret
  exact ⟨rfl, rfl⟩
end Go.Proofs.YtpkjllliidpgoaaGreatDoor
