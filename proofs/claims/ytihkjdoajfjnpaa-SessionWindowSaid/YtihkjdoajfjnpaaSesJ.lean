/- Package session: On. -/
import Derived.Test.YtihkjdoajfjnpaaSesI
import Derived.Deep.MidRow
set_option linter.unusedSimpArgs false
set_option linter.unusedVariables false
namespace Go.Ses
section
variable {s : Ss} {v : Ev}
theorem onS_low (hf : fitsB v = true) (h : v.mine < s.l.yours) : onS s v = (([], false, 0), s) := by unfold onS; rw [if_neg (by simp [hf]), if_pos h]
theorem onS_other (hf : fitsB v = true) (h : ¬ v.mine < s.l.yours) (hy : v.yours ≠ s.mine) : onS s v = (([], decide (s.l.yours < v.mine), 0), { s with l := { freshL s v with helloDue := true } }) := by
  unfold onS; rw [if_neg (by simp [hf]), if_neg h, if_pos hy]
theorem onS_hello (hf : fitsB v = true) (h : ¬ v.mine < s.l.yours) (hy : v.yours = s.mine) (hk : v.kind = 1) : onS s v = (([], decide (s.l.yours < v.mine), 0), { s with l := { freshL s v with knows := true, ackDue := (freshL s v).ackDue || !decide (s.l.yours < v.mine) } }) := by
  unfold onS; rw [if_neg (by simp [hf]), if_neg h, if_neg (fun e => e hy), if_pos hk]
theorem onS_ack (hf : fitsB v = true) (h : ¬ v.mine < s.l.yours) (hy : v.yours = s.mine) (hk : v.kind = 3) : onS s v = (([], decide (s.l.yours < v.mine), 0), { s with l := letGo { freshL s v with knows := true } v.ack }) := by
  unfold onS; rw [if_neg (by simp [hf]), if_neg h, if_neg (fun e => e hy), if_neg (by omega), if_pos hk]
theorem onS_data (hf : fitsB v = true) (h : ¬ v.mine < s.l.yours) (hy : v.yours = s.mine) (hk : v.kind = 2) : onS s v = (((takeS (letGo { freshL s v with knows := true } v.ack) v.seq v.body).1, decide (s.l.yours < v.mine), 0), { s with l := (takeS (letGo { freshL s v with knows := true } v.ack) v.seq v.body).2 }) := by
  unfold onS; rw [if_neg (by simp [hf]), if_neg h, if_neg (fun e => e hy), if_neg (by omega), if_neg (by omega)]
theorem freshL_new (h : s.l.yours < v.mine) : freshL s v = { newL v.mine with helloDue := true } := by unfold freshL; rw [if_pos h]
theorem freshL_old (h : ¬ s.l.yours < v.mine) : freshL s v = s.l := by unfold freshL; rw [if_neg h]
end
end Go.Ses
namespace Go.Proofs.Ytihkjdoajfjnpaa
open Go.ChangeShapes Go.WideShapes Go.ChangeAt Go.RowKit Go.Base Go.Ses

section
variable {P : Program}
/-- Cells of a block set, one behind the other. -/
def setAll (cs : Array Value) : Nat → List Value → Array Value
  | _, [] => cs
  | o, v :: r => setAll (cs.setIfInBounds o v) (o + 1) r
theorem heap_setCells {g : Nat} {t : TypeId} {z : Nat × Nat} : ∀ (vs : List Value) (o : Nat) (w : World) (cs : Array Value), w.heap[g]? = some (.cells cs t z) → (w.setCells g o vs).heap[g]? = some (.cells (setAll cs o vs) t z)
  | [], _, _, _, h => h
  | v :: r, o, w, cs, h => heap_setCells r (o + 1) _ _ (heap_set h o v)
theorem moved_setCells (g : Nat) : ∀ (vs : List Value) (o : Nat) (w : World), Moved (fun k => k = g) w (w.setCells g o vs)
  | [], _, w => Moved.refl _ w
  | v :: r, o, w => ((Moved.refl (fun k => k = g) w).setCell (.inr rfl) v).trans (moved_setCells g r (o + 1) _) (fun _ _ h => h)
/-- A whole struct stored into the middle of a block: the world behind it has a name of its own. -/
theorem wpList_store_midN {ops : Array Oper} {rest : List Oper} {o : Oper} {a : Act} {w : World} {Q : Exit → Act → World → Prop} (hgd : o.guard = none) (ty : TypeId) (x y : Operand) (ho : o.op = .store ty x y)
    (g i : Nat) (cells : Array Value) (hx : a.eval x = .pointer (some ⟨g, i, none⟩)) (hy : a.eval y = .agg cells) (t : TypeId) (old : Array Value) (hg : w.heap[g]? = some (.cells old t (0, 0))) (hi : (P.info? ty).map (·.size) = some cells.size) (hsz : i + cells.size ≤ old.size)
    (h1 : cells.toList.all (·.oneCell') = true) (h : ∀ w2 : World, w2.heap[g]? = some (.cells (setAll old i cells.toList) t (0, 0)) → Moved (fun k => k = g) w w2 → wpList P ops Q rest (a.put o.dst undef) w2) : wpList P ops Q (o :: rest) a w :=
  wpList_store_mid hgd ty x y ho g i cells hx hy (fun j hj => by
    rw [cell_of_row _ _ _ _ _ _ hg]
    refine ⟨?_, (cells_of_heap hg).2 _⟩
    rw [Array.getElem?_eq_getElem (by omega)]; rfl) hi (by rw [← Array.all_toList]; exact h1) (h _ (heap_setCells _ _ _ _ hg) (moved_setCells _ _ _ _))
end
section
variable {F G : Nat → Prop} {w w1 w' W V : World} {p g : Nat} {s s2 : Ss} {A A0 : Option Addr} {c c0 : Nat} {vs : List SlV} {bm : Nat} {D D' : DataW Value} {q : Nat → Prop} {v : Ev}
/-- On the way through On: the session, the envelope in its box. -/
structure OnW (F : Nat → Prop) (p : Nat) (s : Ss) (A : Option Addr) (c : Nat) (vs : List SlV) (bm : Nat) (D : DataW Value) (g : Nat) (v : Ev) (A0 : Option Addr) (c0 : Nat) (w W : World) : Prop where
  ses : SesX W F p s A c vs bm D
  env : W.heap[g]? = some (.cells #[.int .i64 v.kind, .int .i64 v.mine, .int .i64 v.yours, .int .i64 v.seq, .int .i64 v.ack, .slice A0 v.body.length c0] 29 (0, 0))
  byt : ByU W A0 v.body
  size : w.heap.size ≤ W.heap.size
  moved : Moved (fun k => F k ∧ k < w.heap.size) w W
  ku : Ku w W
  nin : ¬ F g ∧ (∀ k, F k → k < W.heap.size)
theorem OnW.later (h : OnW F p s A c vs bm D g v A0 c0 w W) (hb : Below W.heap.size W V) : OnW F p s A c vs bm D g v A0 c0 w V :=
  ⟨h.ses.later hb, (hb.block _ (heap_lt h.env)).trans h.env, h.byt.later hb, Nat.le_trans h.size hb.size, h.moved.trans (q := fun _ => False) (Below.movedNew hb) (fun _ _ h => h.elim), h.ku.trans (Below.ku hb), h.nin.1, fun k hk => Nat.lt_of_lt_of_le (h.nin.2 k hk) hb.size⟩
theorem OnW.drew (h : OnW F p s A c vs bm D g v A0 c0 w W) : OnW F p s A c vs bm D g v A0 c0 w W.drew := h.later (Below.refl _ _).drew
theorem OnW.cells (h : OnW F p s A c vs bm D g v A0 c0 w W) : W.cell? ⟨g, 0, none⟩ = some (.int .i64 v.kind) ∧ W.cell? ⟨g, 1, none⟩ = some (.int .i64 v.mine) ∧ W.cell? ⟨g, 2, none⟩ = some (.int .i64 v.yours) ∧ W.cell? ⟨g, 3, none⟩ = some (.int .i64 v.seq) ∧ W.cell? ⟨g, 4, none⟩ = some (.int .i64 v.ack) ∧ W.cell? ⟨g, 5, none⟩ = some (.slice A0 v.body.length c0) :=
  ⟨cell_of_row _ _ 0 _ _ _ h.env, cell_of_row _ _ 1 _ _ _ h.env, cell_of_row _ _ 2 _ _ _ h.env, cell_of_row _ _ 3 _ _ _ h.env, cell_of_row _ _ 4 _ _ _ h.env, cell_of_row _ _ 5 _ _ _ h.env⟩
/-- A field of the session set. -/
theorem OnW.set (h : OnW F p s A c vs bm D g v A0 c0 w W) (i : Nat) (u : Value) (s2 : Ss) (hc : (sesC s A vs.length c bm).setIfInBounds i u = sesC s2 A vs.length c bm) (hok : Ok s2) (h1 : s2.l.out = s.l.out) (h2 : s2.l.inn = s.l.inn) (h3 : s2.l.puts = s.l.puts) :
    OnW F p s2 A c vs bm D g v A0 c0 w (W.setCell ⟨p, i, none⟩ u) := by
  have hm : Moved (fun k => k = p) W (W.setCell ⟨p, i, none⟩ u) := (Moved.refl (fun k => k = p) W).setCell (.inr rfl) _
  have hu := h.ses.ku_set hm
  exact ⟨h.ses.set hm (by rw [heap_set h.ses.self i u, hc]) hok h1 h2 h3, hm.heap h.env (fun e => h.nin.1 (e ▸ h.ses.inF.1)), h.byt.kept hu, Nat.le_trans h.size hm.size, h.moved.trans hm (fun k hk e => ⟨e ▸ h.ses.inF.1, hk⟩), h.ku.trans hu, h.nin.1, fun k hk => Nat.lt_of_lt_of_le (h.nin.2 k hk) hm.size⟩
/-- Behind a call that keeps to the session's blocks. -/
theorem OnW.call (h : OnW F p s A c vs bm D g v A0 c0 w W) {A2 : Option Addr} {c2 : Nat} {vs2 : List SlV} {bm2 : Nat} {D2 : DataW Value} (hs : SesX V F p s2 A2 c2 vs2 bm2 D2) (hm : Moved F W V) (hu : Ku W V) : OnW F p s2 A2 c2 vs2 bm2 D2 g v A0 c0 w V :=
  ⟨hs, hm.heap h.env h.nin.1, h.byt.kept hu, Nat.le_trans h.size hm.size, h.moved.trans hm (fun k hk e => ⟨e, hk⟩), h.ku.trans hu, h.nin.1, fun k hk => Nat.lt_of_lt_of_le (h.nin.2 k hk) hm.size⟩
theorem setAll_ses (s : Ss) (A : Option Addr) (n c bm : Nat) (l2 : Link) (A2 : Option Addr) (n2 c2 bm2 : Nat) : setAll (sesC s A n c bm) 1 (linkC l2 A2 n2 c2 bm2) = sesC ⟨s.mine, l2⟩ A2 n2 c2 bm2 := by
  simp only [setAll, sesC, linkC, List.setIfInBounds_toArray, List.set_cons_zero, List.set_cons_succ]
/-- Begun anew. -/
theorem OnW.anew {w5 w6 : World} {bm2 : Nat} (h : OnW F p s A c vs bm D g v A0 c0 w W) (hm1 : 1 ≤ v.mine ∧ v.mine ≤ 2147483647) (hb5 : Below W.heap.size W w5) (hown : w5.ownsMap Try.prog 3 idE bm2 0 (.map [])) (hl : W.heap.size ≤ bm2) (hl2 : bm2 < w5.heap.size)
    (h6 : w6.heap[p]? = some (.cells (setAll (sesC s A vs.length c bm) 1 (linkC (newL v.mine) none 0 0 bm2)) 60 (0, 0))) (hm6 : Moved (fun k => k = p) w5 w6) :
    OnW (fun k => F k ∨ k = bm2) p ⟨s.mine, newL v.mine⟩ none 0 [] bm2 (.map []) g v A0 c0 w w6 := by
  have h5 := h.ses.later hb5
  have hu := h5.ku_set hm6
  have hbp : bm2 ≠ p := fun e => by have := h.nin.2 p h.ses.inF.1; omega
  have hg := heap_lt h.env
  have hz := h.size
  have hfin : SesX w6 (fun k => F k ∨ k = bm2) p ⟨s.mine, newL v.mine⟩ none 0 [] bm2 (.map []) := ses_new h.ses.ok.mine ⟨by omega, hm1.2⟩ (by rw [h6, setAll_ses]) (own_mapK hown hm6 (fun e => hbp e)) ⟨.inl h.ses.inF.1, .inr rfl⟩
  refine ⟨hfin, hm6.heap ((hb5.block _ hg).trans h.env) (fun e => h.nin.1 (e ▸ h.ses.inF.1)), (h.byt.later hb5).kept hu, Nat.le_trans (Nat.le_trans hz hb5.size) hm6.size, ?_, (h.ku.trans (Below.ku hb5)).trans hu, fun e => e.elim h.nin.1 (fun e => by omega), fun k hk => ?_⟩
  · exact ((h.moved.trans (q := fun _ => False) (Below.movedNew hb5) (fun _ _ h => h.elim)).trans hm6 (fun k hk e => ⟨e ▸ h.ses.inF.1, hk⟩)).weaken (fun k hk e => ⟨.inl e.1, hk⟩)
  · have := hm6.size
    have := hb5.size
    rcases hk with hk | hk
    · have := h.nin.2 k hk; omega
    · omega
def OnPost (F : Nat → Prop) (p : Nat) (s : Ss) (v : Ev) (w : World) (e : Ending) (w' : World) : Prop :=
  ∃ (Ab : Option Addr) (cb : Nat) (bs : List SlV), e = .returned (.tuple #[.slice Ab (onS s v).1.1.length cb, .bool (onS s v).1.2.1, .int .i64 0]) ∧ bs.map SlV.b = (onS s v).1.1 ∧ w'.ownsRow 0 27 1 (.slice Ab (onS s v).1.1.length cb) (onS s v).1.1.length (bs.map SlV.val) ∧ (∀ x ∈ bs, ByU w' x.A x.b) ∧
    SE (fun k => F k ∨ w.heap.size ≤ k) w' p (onS s v).2 ∧ Moved F w w' ∧ Ku w w'
theorem OnW.post0 (h : OnW G p s2 A c vs bm D g v A0 c0 w W) (hG : ∀ k, G k → F k ∨ w.heap.size ≤ k) {fr : Bool} (hE : onS s v = (([], fr, 0), s2)) : OnPost F p s v w (.returned (.tuple #[.slice none 0 0, .bool fr, .int .i64 0])) W := by
  refine ⟨none, 0, [], ?_, ?_, ?_, (fun x hx => (by cases hx)), ?_, ?_, h.ku⟩
  · rw [hE]; rfl
  · rw [hE]; rfl
  · rw [hE]; exact World.ownsRow_nil _ _ _ _
  · rw [hE]; exact (h.ses.wide hG).se
  · exact h.moved.weaken (fun k hk e => (hG k e.1).elim id (fun h => by omega))
set_option maxHeartbeats 8000000 in
set_option maxRecDepth 20000 in
theorem on_any (h : SesX w F p s A c vs bm D) (hF : ∀ k, F k → k < w.heap.size) (v : Ev) (A0 : Option Addr) (c0 : Nat) (hy : ByU w A0 v.body) (hf : fitsB v = true) (hp : s.l.puts < 1000000) :
    Calls Try.prog 10 #[.pointer (some ⟨p, 0, none⟩), .agg #[.int .i64 v.kind, .int .i64 v.mine, .int .i64 v.yours, .int .i64 v.seq, .int .i64 v.ack, .slice A0 v.body.length c0]] w (OnPost F p s v w) := by
  obtain ⟨p1, p2, p3, p4, p5, p6, p7⟩ := fits_parts hf
  obtain ⟨W1, hW1⟩ : ∃ W1, W1 = w.alloc (.cells #[.int .i64 v.kind, .int .i64 v.mine, .int .i64 v.yours, .int .i64 v.seq, .int .i64 v.ack, .slice A0 v.body.length c0] 29) := ⟨_, rfl⟩
  have hB1 : Below w.heap.size w W1 := by rw [hW1]; exact below_alloc _ _
  have hz1 : W1.heap.size = w.heap.size + 1 := by rw [hW1]; simp
  have HO1 : Hid (OnW F p s A c vs bm D w.heap.size v A0 c0 w W1) := Lib.hid ⟨h.later hB1, by rw [hW1]; exact heap_new w _, hy.later hB1, hB1.size, Below.movedNew hB1, Below.ku hB1, fun e => by have := hF _ e; omega, fun k hk => by have := hF k hk; omega⟩
  have HC := Lib.hid (closed_any HO1.out.ses)
  have HFi : Hid (Calls Try.prog 20 #[.agg #[.int .i64 v.kind, .int .i64 v.mine, .int .i64 v.yours, .int .i64 v.seq, .int .i64 v.ack, .slice A0 v.body.length c0]] W1 fun e w' => e = .returned (.bool true) ∧ Below W1.heap.size W1 w') := Lib.hid (by have := fits_any v A0 c0 W1; rw [hf] at this; exact this)
  have HW1 : Hid (W1 = w.alloc (.cells #[.int .i64 v.kind, .int .i64 v.mine, .int .i64 v.yours, .int .i64 v.seq, .int .i64 v.ack, .slice A0 v.body.length c0] 29)) := Lib.hid hW1
  have HP := Lib.hid hp
  have HFt := Lib.hid hF
  have HFv := Lib.hid hf
  have HPs := Lib.hid (And.intro p2 (And.intro p3 (And.intro p4 p5)))
  clear hW1 hB1 hz1 h hy hF hp p2 p3 p5 p7 p1
  have ee := HO1.out.cells
  obtain ⟨e0, e1, e2, e3, e4, e5⟩ := ee
  obtain ⟨km, hkm⟩ : ∃ y, y = v.mine := ⟨_, rfl⟩
  obtain ⟨ky, hky⟩ : ∃ y, y = v.yours := ⟨_, rfl⟩
  obtain ⟨kk, hkk⟩ : ∃ y, y = v.kind := ⟨_, rfl⟩
  obtain ⟨ym, hym⟩ : ∃ y, y = s.l.yours := ⟨_, rfl⟩
  obtain ⟨mm, hmm⟩ : ∃ y, y = s.mine := ⟨_, rfl⟩
  have HN := Lib.hid (And.intro hkm (And.intro hky (And.intro hkk (And.intro hym hmm))))
  rw [← hkm, ← hky, ← hkk] at HW1 HFi ⊢
  rw [← hkk] at e0 p6
  rw [← hkm] at e1 p4
  rw [← hky] at e2
  clear hkm hky hkk hym hmm
  by_cases h1 : km < ym
  · have H1 : Hid (km < ym) := Lib.hid h1
    go_enter Try.func10, Try.ntmps10
    go_wp2_with (first
      | rw [← HW1.out]
      | (go_at_call 19; refine Calls.mono (by with_reducible exact HC.out) ?_; rintro e w1 ⟨rfl, rfl⟩)
      | (go_at_call 20; refine Calls.mono (by with_reducible exact HFi.out) ?_; rintro e w2 ⟨rfl, hb⟩; have HB2 := Lib.hid hb; clear hb))
    have HO2 := Lib.hid (HO1.out.later HB2.out)
    clear e0 e1 e2 e3 e4 e5
    have a1 : w2.cell? ⟨w.heap.size, 1, none⟩ = some (.int .i64 km) := by rw [HN.out.1]; exact HO2.out.cells.2.1
    have a2 : w2.cell? ⟨p, 1, none⟩ = some (.int .i64 ym) := by rw [HN.out.2.2.2.1]; exact HO2.out.ses.c1
    refine wp_region_held_drew (S := (fun V => V.cell? ⟨w.heap.size, 1, none⟩ = some (.int .i64 km) ∧ V.cell? ⟨p, 1, none⟩ = some (.int .i64 ym))) (by kernel_rfl) ⟨a1, a2⟩ (fun hHeld => ?_)
    refine wpAnyH_take (i := 0) (v := ?vv1) rfl (by kernel_rfl) (by kernel_rfl) (by kernel_rfl) (fun _ _ _ h => h) (Or.inl ⟨by rfl, ?hy1⟩) hHeld ?rr1
    case hy1 => (intro w' hSw; obtain ⟨s0, s1⟩ := hSw; go_simp; try with_reducible rfl)
    try simp only [Act.put, List.setIfInBounds_toArray, List.set_cons_zero, List.set_cons_succ, List.getElem_toArray, List.getElem_cons_succ, List.getElem_cons_zero]
    refine wpAnyH_take (i := 1) (v := ?vv2) rfl (by kernel_rfl) (by kernel_rfl) (by kernel_rfl) (fun _ _ _ h => h) (Or.inl ⟨by rfl, ?hy2⟩) hHeld ?rr2
    case hy2 => (intro w' hSw; obtain ⟨s0, s1⟩ := hSw; go_simp; try with_reducible rfl)
    try simp only [Act.put, List.setIfInBounds_toArray, List.set_cons_zero, List.set_cons_succ, List.getElem_toArray, List.getElem_cons_succ, List.getElem_cons_zero]
    refine wpAnyH_take (i := 2) (v := ?vv3) rfl (by kernel_rfl) (by kernel_rfl) (by kernel_rfl) (fun _ _ _ h => h) (Or.inl ⟨by rfl, ?hy3⟩) hHeld ?rr3
    case hy3 => (intro w' hSw; obtain ⟨s0, s1⟩ := hSw; go_simp; try with_reducible rfl)
    try simp only [Act.put, List.setIfInBounds_toArray, List.set_cons_zero, List.set_cons_succ, List.getElem_toArray, List.getElem_cons_succ, List.getElem_cons_zero]
    refine wpAnyH_take (i := 3) (v := ?vv4) rfl (by kernel_rfl) (by kernel_rfl) (by kernel_rfl) (fun _ _ _ h => h) (Or.inl ⟨by rfl, ?hy4⟩) hHeld ?rr4
    case hy4 => (intro w' hSw; obtain ⟨s0, s1⟩ := hSw; go_simp; try with_reducible rfl)
    try simp only [Act.put, List.setIfInBounds_toArray, List.set_cons_zero, List.set_cons_succ, List.getElem_toArray, List.getElem_cons_succ, List.getElem_cons_zero]
    refine wpAnyH_take (i := 4) (v := ?vv5) rfl (by kernel_rfl) (by kernel_rfl) (by kernel_rfl) (fun _ _ _ h => h) (Or.inl ⟨by rfl, ?hy5⟩) hHeld ?rr5
    case hy5 => (intro w' hSw; obtain ⟨s0, s1⟩ := hSw; go_simp; try with_reducible rfl)
    try simp only [Act.put, List.setIfInBounds_toArray, List.set_cons_zero, List.set_cons_succ, List.getElem_toArray, List.getElem_cons_succ, List.getElem_cons_zero]
    refine wpAnyH_take (i := 5) (v := ?vv6) rfl (by kernel_rfl) (by kernel_rfl) (by kernel_rfl) (fun _ _ _ h => h) (Or.inl ⟨by rfl, ?hy6⟩) hHeld ?rr6
    case hy6 => (intro w' hSw; obtain ⟨s0, s1⟩ := hSw; go_simp; try with_reducible rfl)
    try simp only [Act.put, List.setIfInBounds_toArray, List.set_cons_zero, List.set_cons_succ, List.getElem_toArray, List.getElem_cons_succ, List.getElem_cons_zero]
    refine wpAnyH_take (i := 6) (v := ?vv7) rfl (by kernel_rfl) (by kernel_rfl) (by kernel_rfl) (fun _ _ _ h => h) (Or.inl ⟨by rfl, ?hy7⟩) hHeld ?rr7
    case hy7 => (intro w' hSw; obtain ⟨s0, s1⟩ := hSw; go_simp; try with_reducible rfl)
    try simp only [Act.put, List.setIfInBounds_toArray, List.set_cons_zero, List.set_cons_succ, List.getElem_toArray, List.getElem_cons_succ, List.getElem_cons_zero]
    refine wpAnyH_take (i := 7) (v := ?vv8) rfl (by kernel_rfl) (by kernel_rfl) (by kernel_rfl) (fun _ _ _ h => h) (Or.inl ⟨by rfl, ?hy8⟩) hHeld ?rr8
    case hy8 => (intro w' hSw; obtain ⟨s0, s1⟩ := hSw; go_simp; try with_reducible rfl)
    try simp only [Act.put, List.setIfInBounds_toArray, List.set_cons_zero, List.set_cons_succ, List.getElem_toArray, List.getElem_cons_succ, List.getElem_cons_zero]
    refine wpAnyH_take (i := 8) (v := ?vv9) rfl (by kernel_rfl) (by kernel_rfl) (by kernel_rfl) (fun _ _ _ h => h) (Or.inl ⟨by rfl, ?hy9⟩) hHeld ?rr9
    case hy9 => (intro w' hSw; obtain ⟨s0, s1⟩ := hSw; go_simp; try with_reducible rfl)
    try simp only [Act.put, List.setIfInBounds_toArray, List.set_cons_zero, List.set_cons_succ, List.getElem_toArray, List.getElem_cons_succ, List.getElem_cons_zero]
    refine wpAnyH_done (by kernel_rfl) ?_ _
    clear hHeld
    clear a1 a2
    obtain ⟨w3, hww3⟩ : ∃ y, y = w2.drew := ⟨_, rfl⟩
    have HO3 := Lib.hid (HO2.out.drew)
    rw [← hww3] at HO3 ⊢
    clear hww3
    go_wp2
    go_ret3
    exact HO3.out.post0 (fun k h => .inl h) (onS_low HFv.out (by rw [← HN.out.1, ← HN.out.2.2.2.1]; exact H1.out))
  have HL : Hid (¬ v.mine < s.l.yours) := Lib.hid (by rw [← HN.out.1, ← HN.out.2.2.2.1]; exact h1)
  by_cases h2 : ym < km
  · have HD : Hid (s.l.yours < v.mine) := Lib.hid (by rw [← HN.out.1, ← HN.out.2.2.2.1]; exact h2)
    by_cases h3 : ky = mm
    · have H2 : Hid (ky = mm) := Lib.hid h3
      have h3b : (ky != mm) = false := by simp [h3]
      have h3c : (ky == mm) = true := by simp [h3]
      clear h3
      rcases p6 with h4 | h4 | h4
      · subst h4
        go_enter Try.func10, Try.ntmps10
        go_wp2_with (first
          | rw [← HW1.out]
          | (go_at_call 19; refine Calls.mono (by with_reducible exact HC.out) ?_; rintro e w1 ⟨rfl, rfl⟩)
          | (go_at_call 20; refine Calls.mono (by with_reducible exact HFi.out) ?_; rintro e w2 ⟨rfl, hb⟩; have HB2 := Lib.hid hb; clear hb))
        have HO2 := Lib.hid (HO1.out.later HB2.out)
        clear e0 e1 e2 e3 e4 e5
        have a1 : w2.cell? ⟨w.heap.size, 1, none⟩ = some (.int .i64 km) := by rw [HN.out.1]; exact HO2.out.cells.2.1
        have a2 : w2.cell? ⟨p, 1, none⟩ = some (.int .i64 ym) := by rw [HN.out.2.2.2.1]; exact HO2.out.ses.c1
        refine wp_region_held_drew (S := (fun V => V.cell? ⟨w.heap.size, 1, none⟩ = some (.int .i64 km) ∧ V.cell? ⟨p, 1, none⟩ = some (.int .i64 ym))) (by kernel_rfl) ⟨a1, a2⟩ (fun hHeld => ?_)
        refine wpAnyH_take (i := 0) (v := ?vv10) rfl (by kernel_rfl) (by kernel_rfl) (by kernel_rfl) (fun _ _ _ h => h) (Or.inl ⟨by rfl, ?hy10⟩) hHeld ?rr10
        case hy10 => (intro w' hSw; obtain ⟨s0, s1⟩ := hSw; go_simp; try with_reducible rfl)
        try simp only [Act.put, List.setIfInBounds_toArray, List.set_cons_zero, List.set_cons_succ, List.getElem_toArray, List.getElem_cons_succ, List.getElem_cons_zero]
        refine wpAnyH_take (i := 1) (v := ?vv11) rfl (by kernel_rfl) (by kernel_rfl) (by kernel_rfl) (fun _ _ _ h => h) (Or.inl ⟨by rfl, ?hy11⟩) hHeld ?rr11
        case hy11 => (intro w' hSw; obtain ⟨s0, s1⟩ := hSw; go_simp; try with_reducible rfl)
        try simp only [Act.put, List.setIfInBounds_toArray, List.set_cons_zero, List.set_cons_succ, List.getElem_toArray, List.getElem_cons_succ, List.getElem_cons_zero]
        refine wpAnyH_take (i := 2) (v := ?vv12) rfl (by kernel_rfl) (by kernel_rfl) (by kernel_rfl) (fun _ _ _ h => h) (Or.inl ⟨by rfl, ?hy12⟩) hHeld ?rr12
        case hy12 => (intro w' hSw; obtain ⟨s0, s1⟩ := hSw; go_simp; try with_reducible rfl)
        try simp only [Act.put, List.setIfInBounds_toArray, List.set_cons_zero, List.set_cons_succ, List.getElem_toArray, List.getElem_cons_succ, List.getElem_cons_zero]
        refine wpAnyH_take (i := 3) (v := ?vv13) rfl (by kernel_rfl) (by kernel_rfl) (by kernel_rfl) (fun _ _ _ h => h) (Or.inl ⟨by rfl, ?hy13⟩) hHeld ?rr13
        case hy13 => (intro w' hSw; obtain ⟨s0, s1⟩ := hSw; go_simp; try with_reducible rfl)
        try simp only [Act.put, List.setIfInBounds_toArray, List.set_cons_zero, List.set_cons_succ, List.getElem_toArray, List.getElem_cons_succ, List.getElem_cons_zero]
        refine wpAnyH_take (i := 4) (v := ?vv14) rfl (by kernel_rfl) (by kernel_rfl) (by kernel_rfl) (fun _ _ _ h => h) (Or.inl ⟨by rfl, ?hy14⟩) hHeld ?rr14
        case hy14 => (intro w' hSw; obtain ⟨s0, s1⟩ := hSw; go_simp; try with_reducible rfl)
        try simp only [Act.put, List.setIfInBounds_toArray, List.set_cons_zero, List.set_cons_succ, List.getElem_toArray, List.getElem_cons_succ, List.getElem_cons_zero]
        refine wpAnyH_take (i := 5) (v := ?vv15) rfl (by kernel_rfl) (by kernel_rfl) (by kernel_rfl) (fun _ _ _ h => h) (Or.inl ⟨by rfl, ?hy15⟩) hHeld ?rr15
        case hy15 => (intro w' hSw; obtain ⟨s0, s1⟩ := hSw; go_simp; try with_reducible rfl)
        try simp only [Act.put, List.setIfInBounds_toArray, List.set_cons_zero, List.set_cons_succ, List.getElem_toArray, List.getElem_cons_succ, List.getElem_cons_zero]
        refine wpAnyH_take (i := 6) (v := ?vv16) rfl (by kernel_rfl) (by kernel_rfl) (by kernel_rfl) (fun _ _ _ h => h) (Or.inl ⟨by rfl, ?hy16⟩) hHeld ?rr16
        case hy16 => (intro w' hSw; obtain ⟨s0, s1⟩ := hSw; go_simp; try with_reducible rfl)
        try simp only [Act.put, List.setIfInBounds_toArray, List.set_cons_zero, List.set_cons_succ, List.getElem_toArray, List.getElem_cons_succ, List.getElem_cons_zero]
        refine wpAnyH_take (i := 7) (v := ?vv17) rfl (by kernel_rfl) (by kernel_rfl) (by kernel_rfl) (fun _ _ _ h => h) (Or.inl ⟨by rfl, ?hy17⟩) hHeld ?rr17
        case hy17 => (intro w' hSw; obtain ⟨s0, s1⟩ := hSw; go_simp; try with_reducible rfl)
        try simp only [Act.put, List.setIfInBounds_toArray, List.set_cons_zero, List.set_cons_succ, List.getElem_toArray, List.getElem_cons_succ, List.getElem_cons_zero]
        refine wpAnyH_take (i := 8) (v := ?vv18) rfl (by kernel_rfl) (by kernel_rfl) (by kernel_rfl) (fun _ _ _ h => h) (Or.inl ⟨by rfl, ?hy18⟩) hHeld ?rr18
        case hy18 => (intro w' hSw; obtain ⟨s0, s1⟩ := hSw; go_simp; try with_reducible rfl)
        try simp only [Act.put, List.setIfInBounds_toArray, List.set_cons_zero, List.set_cons_succ, List.getElem_toArray, List.getElem_cons_succ, List.getElem_cons_zero]
        refine wpAnyH_done (by kernel_rfl) ?_ _
        clear hHeld
        clear a1 a2
        obtain ⟨w3, hww3⟩ : ∃ y, y = w2.drew := ⟨_, rfl⟩
        have HO3 := Lib.hid (HO2.out.drew)
        rw [← hww3] at HO3 ⊢
        clear hww3
        go_wp2_with fail
        have a1 : w3.cell? ⟨w.heap.size, 1, none⟩ = some (.int .i64 km) := by rw [HN.out.1]; exact HO3.out.cells.2.1
        have a2 : w3.cell? ⟨p, 1, none⟩ = some (.int .i64 ym) := by rw [HN.out.2.2.2.1]; exact HO3.out.ses.c1
        refine wp_region_held_drew (S := (fun V => V.cell? ⟨w.heap.size, 1, none⟩ = some (.int .i64 km) ∧ V.cell? ⟨p, 1, none⟩ = some (.int .i64 ym))) (by kernel_rfl) ⟨a1, a2⟩ (fun hHeld => ?_)
        refine wpAnyH_take (i := 0) (v := ?vv19) rfl (by kernel_rfl) (by kernel_rfl) (by kernel_rfl) (fun _ _ _ h => h) (Or.inl ⟨by rfl, ?hy19⟩) hHeld ?rr19
        case hy19 => (intro w' hSw; obtain ⟨s0, s1⟩ := hSw; go_simp; try with_reducible rfl)
        try simp only [Act.put, List.setIfInBounds_toArray, List.set_cons_zero, List.set_cons_succ, List.getElem_toArray, List.getElem_cons_succ, List.getElem_cons_zero]
        refine wpAnyH_take (i := 1) (v := ?vv20) rfl (by kernel_rfl) (by kernel_rfl) (by kernel_rfl) (fun _ _ _ h => h) (Or.inl ⟨by rfl, ?hy20⟩) hHeld ?rr20
        case hy20 => (intro w' hSw; obtain ⟨s0, s1⟩ := hSw; go_simp; try with_reducible rfl)
        try simp only [Act.put, List.setIfInBounds_toArray, List.set_cons_zero, List.set_cons_succ, List.getElem_toArray, List.getElem_cons_succ, List.getElem_cons_zero]
        refine wpAnyH_take (i := 2) (v := ?vv21) rfl (by kernel_rfl) (by kernel_rfl) (by kernel_rfl) (fun _ _ _ h => h) (Or.inl ⟨by rfl, ?hy21⟩) hHeld ?rr21
        case hy21 => (intro w' hSw; obtain ⟨s0, s1⟩ := hSw; go_simp; try with_reducible rfl)
        try simp only [Act.put, List.setIfInBounds_toArray, List.set_cons_zero, List.set_cons_succ, List.getElem_toArray, List.getElem_cons_succ, List.getElem_cons_zero]
        refine wpAnyH_take (i := 3) (v := ?vv22) rfl (by kernel_rfl) (by kernel_rfl) (by kernel_rfl) (fun _ _ _ h => h) (Or.inl ⟨by rfl, ?hy22⟩) hHeld ?rr22
        case hy22 => (intro w' hSw; obtain ⟨s0, s1⟩ := hSw; go_simp; try with_reducible rfl)
        try simp only [Act.put, List.setIfInBounds_toArray, List.set_cons_zero, List.set_cons_succ, List.getElem_toArray, List.getElem_cons_succ, List.getElem_cons_zero]
        refine wpAnyH_take (i := 4) (v := ?vv23) rfl (by kernel_rfl) (by kernel_rfl) (by kernel_rfl) (fun _ _ _ h => h) (Or.inl ⟨by rfl, ?hy23⟩) hHeld ?rr23
        case hy23 => (intro w' hSw; obtain ⟨s0, s1⟩ := hSw; go_simp; try with_reducible rfl)
        try simp only [Act.put, List.setIfInBounds_toArray, List.set_cons_zero, List.set_cons_succ, List.getElem_toArray, List.getElem_cons_succ, List.getElem_cons_zero]
        refine wpAnyH_take (i := 5) (v := ?vv24) rfl (by kernel_rfl) (by kernel_rfl) (by kernel_rfl) (fun _ _ _ h => h) (Or.inl ⟨by rfl, ?hy24⟩) hHeld ?rr24
        case hy24 => (intro w' hSw; obtain ⟨s0, s1⟩ := hSw; go_simp; try with_reducible rfl)
        try simp only [Act.put, List.setIfInBounds_toArray, List.set_cons_zero, List.set_cons_succ, List.getElem_toArray, List.getElem_cons_succ, List.getElem_cons_zero]
        refine wpAnyH_take (i := 6) (v := ?vv25) rfl (by kernel_rfl) (by kernel_rfl) (by kernel_rfl) (fun _ _ _ h => h) (Or.inl ⟨by rfl, ?hy25⟩) hHeld ?rr25
        case hy25 => (intro w' hSw; obtain ⟨s0, s1⟩ := hSw; go_simp; try with_reducible rfl)
        try simp only [Act.put, List.setIfInBounds_toArray, List.set_cons_zero, List.set_cons_succ, List.getElem_toArray, List.getElem_cons_succ, List.getElem_cons_zero]
        refine wpAnyH_take (i := 7) (v := ?vv26) rfl (by kernel_rfl) (by kernel_rfl) (by kernel_rfl) (fun _ _ _ h => h) (Or.inl ⟨by rfl, ?hy26⟩) hHeld ?rr26
        case hy26 => (intro w' hSw; obtain ⟨s0, s1⟩ := hSw; go_simp; try with_reducible rfl)
        try simp only [Act.put, List.setIfInBounds_toArray, List.set_cons_zero, List.set_cons_succ, List.getElem_toArray, List.getElem_cons_succ, List.getElem_cons_zero]
        refine wpAnyH_done (by kernel_rfl) ?_ _
        clear hHeld
        clear a1 a2
        obtain ⟨w4, hww4⟩ : ∃ y, y = w3.drew := ⟨_, rfl⟩
        have HO4 := Lib.hid (HO3.out.drew)
        rw [← hww4] at HO4 ⊢
        clear hww4
        have a1 : w4.cell? ⟨w.heap.size, 1, none⟩ = some (.int .i64 km) := by rw [HN.out.1]; exact HO4.out.cells.2.1
        go_wp2_with (first | (go_at_call 21; refine Calls.mono (by with_reducible exact newLink_any km w4) ?_; rintro e w5 ⟨bm2, rfl, ho, hb, hl1, hl2⟩; have HOw := Lib.hid ho; have HB5 := Lib.hid hb; have HL1 := Lib.hid hl1; have HL2 := Lib.hid hl2; have hs5 := (HO4.out.ses.later hb).self; have HS5 := Lib.hid hs5; clear ho hb hl1 hl2 hs5; simp only [linkC, newL]) | (refine wpList_store_midN rfl 58 (.tmp 36) (.tmp 34) rfl p 1 (linkC (newL km) none 0 0 bm2).toArray rfl rfl 60 (sesC s A vs.length c bm) HS5.out (by kernel_rfl) (by simp [sesC, linkC]) rfl ?_; intro w6 h6 hm6; rw [HN.out.1] at h6; have HO6 := Lib.hid (HO4.out.anew HPs.out.2.2.1 HB5.out (HOw.out) HL1.out HL2.out h6 hm6); have t3 := HO6.out.ses.c3; have f3 := HO6.out.ses.free 3; clear h6 hm6))
        clear t3 f3 a1
        obtain ⟨w7, hww7⟩ : ∃ y, y = w6.setCell ⟨p, 3, none⟩ (.bool true) := ⟨_, rfl⟩
        have HO7 := Lib.hid (HO6.out.set 3 (.bool true) ⟨s.mine, { newL v.mine with helloDue := true }⟩ rfl (ok_newL HO1.out.ses.ok.mine ⟨by have := HPs.out.2.2.1; omega, HPs.out.2.2.1.2⟩ true) rfl rfl rfl)
        rw [← hww7] at HO7 ⊢
        clear hww7
        have a1 : w7.cell? ⟨w.heap.size, 2, none⟩ = some (.int .i64 ky) := by rw [HN.out.2.1]; exact HO7.out.cells.2.2.1
        have a2 : w7.cell? ⟨p, 0, none⟩ = some (.int .i64 mm) := by rw [HN.out.2.2.2.2]; exact HO7.out.ses.c0
        refine wp_region_held_drew (S := (fun V => V.cell? ⟨w.heap.size, 2, none⟩ = some (.int .i64 ky) ∧ V.cell? ⟨p, 0, none⟩ = some (.int .i64 mm))) (by kernel_rfl) ⟨a1, a2⟩ (fun hHeld => ?_)
        refine wpAnyH_take (i := 0) (v := ?vv27) rfl (by kernel_rfl) (by kernel_rfl) (by kernel_rfl) (fun _ _ _ h => h) (Or.inl ⟨by rfl, ?hy27⟩) hHeld ?rr27
        case hy27 => (intro w' hSw; obtain ⟨s0, s1⟩ := hSw; go_simp; try with_reducible rfl)
        try simp only [Act.put, List.setIfInBounds_toArray, List.set_cons_zero, List.set_cons_succ, List.getElem_toArray, List.getElem_cons_succ, List.getElem_cons_zero]
        refine wpAnyH_take (i := 1) (v := ?vv28) rfl (by kernel_rfl) (by kernel_rfl) (by kernel_rfl) (fun _ _ _ h => h) (Or.inl ⟨by rfl, ?hy28⟩) hHeld ?rr28
        case hy28 => (intro w' hSw; obtain ⟨s0, s1⟩ := hSw; go_simp; try with_reducible rfl)
        try simp only [Act.put, List.setIfInBounds_toArray, List.set_cons_zero, List.set_cons_succ, List.getElem_toArray, List.getElem_cons_succ, List.getElem_cons_zero]
        refine wpAnyH_take (i := 2) (v := ?vv29) rfl (by kernel_rfl) (by kernel_rfl) (by kernel_rfl) (fun _ _ _ h => h) (Or.inl ⟨by rfl, ?hy29⟩) hHeld ?rr29
        case hy29 => (intro w' hSw; obtain ⟨s0, s1⟩ := hSw; go_simp; try with_reducible rfl)
        try simp only [Act.put, List.setIfInBounds_toArray, List.set_cons_zero, List.set_cons_succ, List.getElem_toArray, List.getElem_cons_succ, List.getElem_cons_zero]
        refine wpAnyH_take (i := 3) (v := ?vv30) rfl (by kernel_rfl) (by kernel_rfl) (by kernel_rfl) (fun _ _ _ h => h) (Or.inl ⟨by rfl, ?hy30⟩) hHeld ?rr30
        case hy30 => (intro w' hSw; obtain ⟨s0, s1⟩ := hSw; go_simp; try with_reducible rfl)
        try simp only [Act.put, List.setIfInBounds_toArray, List.set_cons_zero, List.set_cons_succ, List.getElem_toArray, List.getElem_cons_succ, List.getElem_cons_zero]
        refine wpAnyH_take (i := 4) (v := ?vv31) rfl (by kernel_rfl) (by kernel_rfl) (by kernel_rfl) (fun _ _ _ h => h) (Or.inl ⟨by rfl, ?hy31⟩) hHeld ?rr31
        case hy31 => (intro w' hSw; obtain ⟨s0, s1⟩ := hSw; go_simp; try with_reducible rfl)
        try simp only [Act.put, List.setIfInBounds_toArray, List.set_cons_zero, List.set_cons_succ, List.getElem_toArray, List.getElem_cons_succ, List.getElem_cons_zero]
        refine wpAnyH_take (i := 5) (v := ?vv32) rfl (by kernel_rfl) (by kernel_rfl) (by kernel_rfl) (fun _ _ _ h => h) (Or.inl ⟨by rfl, ?hy32⟩) hHeld ?rr32
        case hy32 => (intro w' hSw; obtain ⟨s0, s1⟩ := hSw; go_simp; try with_reducible rfl)
        try simp only [Act.put, List.setIfInBounds_toArray, List.set_cons_zero, List.set_cons_succ, List.getElem_toArray, List.getElem_cons_succ, List.getElem_cons_zero]
        refine wpAnyH_take (i := 6) (v := ?vv33) rfl (by kernel_rfl) (by kernel_rfl) (by kernel_rfl) (fun _ _ _ h => h) (Or.inl ⟨by rfl, ?hy33⟩) hHeld ?rr33
        case hy33 => (intro w' hSw; obtain ⟨s0, s1⟩ := hSw; go_simp; try with_reducible rfl)
        try simp only [Act.put, List.setIfInBounds_toArray, List.set_cons_zero, List.set_cons_succ, List.getElem_toArray, List.getElem_cons_succ, List.getElem_cons_zero]
        refine wpAnyH_done (by kernel_rfl) ?_ _
        clear hHeld
        clear a1 a2
        obtain ⟨w8, hww8⟩ : ∃ y, y = w7.drew := ⟨_, rfl⟩
        have HO8 := Lib.hid (HO7.out.drew)
        rw [← hww8] at HO8 ⊢
        clear hww8
        have t2 := HO8.out.ses.c2
        have f2 := HO8.out.ses.free 2
        have HO9 := Lib.hid (HO8.out.set 2 (.bool true) ⟨s.mine, { ({ newL v.mine with helloDue := true } : Link) with knows := true }⟩ rfl (ok_knows HO8.out.ses.ok (by exact HPs.out.2.2.1.1)) rfl rfl rfl)
        have a0 := HO8.out.cells.1
        rw [← HN.out.2.2.1] at a0
        have hgp : ¬ w.heap.size = p := fun e => HO8.out.nin.1 (e ▸ HO8.out.ses.inF.1)
        have t4 : w8.cell? ⟨p, 4, none⟩ = some (.bool false) := HO8.out.ses.c4
        have f4 := HO8.out.ses.free 4
        go_wp2
        go_ret3
        refine (HO9.out.set 4 (.bool false) ⟨s.mine, { ({ newL v.mine with helloDue := true } : Link) with knows := true, ackDue := false }⟩ rfl (ok_ack HO9.out.ses.ok false) rfl rfl rfl).post0 (fun k h => h.elim .inl (fun h => .inr (by rw [h]; have h1 := HL1.out; have h2 := HO4.out.size; omega))) ?_
        rw [onS_hello HFv.out (by have := HL.out; omega) (by rw [← HN.out.2.1, ← HN.out.2.2.2.2]; exact H2.out) (by rw [← HN.out.2.2.1]), decide_eq_true (by have := HD.out; omega : s.l.yours < v.mine), freshL_new (by have := HD.out; omega)]
        rfl
      · subst h4
        go_enter Try.func10, Try.ntmps10
        go_wp2_with (first
          | rw [← HW1.out]
          | (go_at_call 19; refine Calls.mono (by with_reducible exact HC.out) ?_; rintro e w1 ⟨rfl, rfl⟩)
          | (go_at_call 20; refine Calls.mono (by with_reducible exact HFi.out) ?_; rintro e w2 ⟨rfl, hb⟩; have HB2 := Lib.hid hb; clear hb))
        have HO2 := Lib.hid (HO1.out.later HB2.out)
        clear e0 e1 e2 e3 e4 e5
        have a1 : w2.cell? ⟨w.heap.size, 1, none⟩ = some (.int .i64 km) := by rw [HN.out.1]; exact HO2.out.cells.2.1
        have a2 : w2.cell? ⟨p, 1, none⟩ = some (.int .i64 ym) := by rw [HN.out.2.2.2.1]; exact HO2.out.ses.c1
        refine wp_region_held_drew (S := (fun V => V.cell? ⟨w.heap.size, 1, none⟩ = some (.int .i64 km) ∧ V.cell? ⟨p, 1, none⟩ = some (.int .i64 ym))) (by kernel_rfl) ⟨a1, a2⟩ (fun hHeld => ?_)
        refine wpAnyH_take (i := 0) (v := ?vv34) rfl (by kernel_rfl) (by kernel_rfl) (by kernel_rfl) (fun _ _ _ h => h) (Or.inl ⟨by rfl, ?hy34⟩) hHeld ?rr34
        case hy34 => (intro w' hSw; obtain ⟨s0, s1⟩ := hSw; go_simp; try with_reducible rfl)
        try simp only [Act.put, List.setIfInBounds_toArray, List.set_cons_zero, List.set_cons_succ, List.getElem_toArray, List.getElem_cons_succ, List.getElem_cons_zero]
        refine wpAnyH_take (i := 1) (v := ?vv35) rfl (by kernel_rfl) (by kernel_rfl) (by kernel_rfl) (fun _ _ _ h => h) (Or.inl ⟨by rfl, ?hy35⟩) hHeld ?rr35
        case hy35 => (intro w' hSw; obtain ⟨s0, s1⟩ := hSw; go_simp; try with_reducible rfl)
        try simp only [Act.put, List.setIfInBounds_toArray, List.set_cons_zero, List.set_cons_succ, List.getElem_toArray, List.getElem_cons_succ, List.getElem_cons_zero]
        refine wpAnyH_take (i := 2) (v := ?vv36) rfl (by kernel_rfl) (by kernel_rfl) (by kernel_rfl) (fun _ _ _ h => h) (Or.inl ⟨by rfl, ?hy36⟩) hHeld ?rr36
        case hy36 => (intro w' hSw; obtain ⟨s0, s1⟩ := hSw; go_simp; try with_reducible rfl)
        try simp only [Act.put, List.setIfInBounds_toArray, List.set_cons_zero, List.set_cons_succ, List.getElem_toArray, List.getElem_cons_succ, List.getElem_cons_zero]
        refine wpAnyH_take (i := 3) (v := ?vv37) rfl (by kernel_rfl) (by kernel_rfl) (by kernel_rfl) (fun _ _ _ h => h) (Or.inl ⟨by rfl, ?hy37⟩) hHeld ?rr37
        case hy37 => (intro w' hSw; obtain ⟨s0, s1⟩ := hSw; go_simp; try with_reducible rfl)
        try simp only [Act.put, List.setIfInBounds_toArray, List.set_cons_zero, List.set_cons_succ, List.getElem_toArray, List.getElem_cons_succ, List.getElem_cons_zero]
        refine wpAnyH_take (i := 4) (v := ?vv38) rfl (by kernel_rfl) (by kernel_rfl) (by kernel_rfl) (fun _ _ _ h => h) (Or.inl ⟨by rfl, ?hy38⟩) hHeld ?rr38
        case hy38 => (intro w' hSw; obtain ⟨s0, s1⟩ := hSw; go_simp; try with_reducible rfl)
        try simp only [Act.put, List.setIfInBounds_toArray, List.set_cons_zero, List.set_cons_succ, List.getElem_toArray, List.getElem_cons_succ, List.getElem_cons_zero]
        refine wpAnyH_take (i := 5) (v := ?vv39) rfl (by kernel_rfl) (by kernel_rfl) (by kernel_rfl) (fun _ _ _ h => h) (Or.inl ⟨by rfl, ?hy39⟩) hHeld ?rr39
        case hy39 => (intro w' hSw; obtain ⟨s0, s1⟩ := hSw; go_simp; try with_reducible rfl)
        try simp only [Act.put, List.setIfInBounds_toArray, List.set_cons_zero, List.set_cons_succ, List.getElem_toArray, List.getElem_cons_succ, List.getElem_cons_zero]
        refine wpAnyH_take (i := 6) (v := ?vv40) rfl (by kernel_rfl) (by kernel_rfl) (by kernel_rfl) (fun _ _ _ h => h) (Or.inl ⟨by rfl, ?hy40⟩) hHeld ?rr40
        case hy40 => (intro w' hSw; obtain ⟨s0, s1⟩ := hSw; go_simp; try with_reducible rfl)
        try simp only [Act.put, List.setIfInBounds_toArray, List.set_cons_zero, List.set_cons_succ, List.getElem_toArray, List.getElem_cons_succ, List.getElem_cons_zero]
        refine wpAnyH_take (i := 7) (v := ?vv41) rfl (by kernel_rfl) (by kernel_rfl) (by kernel_rfl) (fun _ _ _ h => h) (Or.inl ⟨by rfl, ?hy41⟩) hHeld ?rr41
        case hy41 => (intro w' hSw; obtain ⟨s0, s1⟩ := hSw; go_simp; try with_reducible rfl)
        try simp only [Act.put, List.setIfInBounds_toArray, List.set_cons_zero, List.set_cons_succ, List.getElem_toArray, List.getElem_cons_succ, List.getElem_cons_zero]
        refine wpAnyH_take (i := 8) (v := ?vv42) rfl (by kernel_rfl) (by kernel_rfl) (by kernel_rfl) (fun _ _ _ h => h) (Or.inl ⟨by rfl, ?hy42⟩) hHeld ?rr42
        case hy42 => (intro w' hSw; obtain ⟨s0, s1⟩ := hSw; go_simp; try with_reducible rfl)
        try simp only [Act.put, List.setIfInBounds_toArray, List.set_cons_zero, List.set_cons_succ, List.getElem_toArray, List.getElem_cons_succ, List.getElem_cons_zero]
        refine wpAnyH_done (by kernel_rfl) ?_ _
        clear hHeld
        clear a1 a2
        obtain ⟨w3, hww3⟩ : ∃ y, y = w2.drew := ⟨_, rfl⟩
        have HO3 := Lib.hid (HO2.out.drew)
        rw [← hww3] at HO3 ⊢
        clear hww3
        go_wp2_with fail
        have a1 : w3.cell? ⟨w.heap.size, 1, none⟩ = some (.int .i64 km) := by rw [HN.out.1]; exact HO3.out.cells.2.1
        have a2 : w3.cell? ⟨p, 1, none⟩ = some (.int .i64 ym) := by rw [HN.out.2.2.2.1]; exact HO3.out.ses.c1
        refine wp_region_held_drew (S := (fun V => V.cell? ⟨w.heap.size, 1, none⟩ = some (.int .i64 km) ∧ V.cell? ⟨p, 1, none⟩ = some (.int .i64 ym))) (by kernel_rfl) ⟨a1, a2⟩ (fun hHeld => ?_)
        refine wpAnyH_take (i := 0) (v := ?vv43) rfl (by kernel_rfl) (by kernel_rfl) (by kernel_rfl) (fun _ _ _ h => h) (Or.inl ⟨by rfl, ?hy43⟩) hHeld ?rr43
        case hy43 => (intro w' hSw; obtain ⟨s0, s1⟩ := hSw; go_simp; try with_reducible rfl)
        try simp only [Act.put, List.setIfInBounds_toArray, List.set_cons_zero, List.set_cons_succ, List.getElem_toArray, List.getElem_cons_succ, List.getElem_cons_zero]
        refine wpAnyH_take (i := 1) (v := ?vv44) rfl (by kernel_rfl) (by kernel_rfl) (by kernel_rfl) (fun _ _ _ h => h) (Or.inl ⟨by rfl, ?hy44⟩) hHeld ?rr44
        case hy44 => (intro w' hSw; obtain ⟨s0, s1⟩ := hSw; go_simp; try with_reducible rfl)
        try simp only [Act.put, List.setIfInBounds_toArray, List.set_cons_zero, List.set_cons_succ, List.getElem_toArray, List.getElem_cons_succ, List.getElem_cons_zero]
        refine wpAnyH_take (i := 2) (v := ?vv45) rfl (by kernel_rfl) (by kernel_rfl) (by kernel_rfl) (fun _ _ _ h => h) (Or.inl ⟨by rfl, ?hy45⟩) hHeld ?rr45
        case hy45 => (intro w' hSw; obtain ⟨s0, s1⟩ := hSw; go_simp; try with_reducible rfl)
        try simp only [Act.put, List.setIfInBounds_toArray, List.set_cons_zero, List.set_cons_succ, List.getElem_toArray, List.getElem_cons_succ, List.getElem_cons_zero]
        refine wpAnyH_take (i := 3) (v := ?vv46) rfl (by kernel_rfl) (by kernel_rfl) (by kernel_rfl) (fun _ _ _ h => h) (Or.inl ⟨by rfl, ?hy46⟩) hHeld ?rr46
        case hy46 => (intro w' hSw; obtain ⟨s0, s1⟩ := hSw; go_simp; try with_reducible rfl)
        try simp only [Act.put, List.setIfInBounds_toArray, List.set_cons_zero, List.set_cons_succ, List.getElem_toArray, List.getElem_cons_succ, List.getElem_cons_zero]
        refine wpAnyH_take (i := 4) (v := ?vv47) rfl (by kernel_rfl) (by kernel_rfl) (by kernel_rfl) (fun _ _ _ h => h) (Or.inl ⟨by rfl, ?hy47⟩) hHeld ?rr47
        case hy47 => (intro w' hSw; obtain ⟨s0, s1⟩ := hSw; go_simp; try with_reducible rfl)
        try simp only [Act.put, List.setIfInBounds_toArray, List.set_cons_zero, List.set_cons_succ, List.getElem_toArray, List.getElem_cons_succ, List.getElem_cons_zero]
        refine wpAnyH_take (i := 5) (v := ?vv48) rfl (by kernel_rfl) (by kernel_rfl) (by kernel_rfl) (fun _ _ _ h => h) (Or.inl ⟨by rfl, ?hy48⟩) hHeld ?rr48
        case hy48 => (intro w' hSw; obtain ⟨s0, s1⟩ := hSw; go_simp; try with_reducible rfl)
        try simp only [Act.put, List.setIfInBounds_toArray, List.set_cons_zero, List.set_cons_succ, List.getElem_toArray, List.getElem_cons_succ, List.getElem_cons_zero]
        refine wpAnyH_take (i := 6) (v := ?vv49) rfl (by kernel_rfl) (by kernel_rfl) (by kernel_rfl) (fun _ _ _ h => h) (Or.inl ⟨by rfl, ?hy49⟩) hHeld ?rr49
        case hy49 => (intro w' hSw; obtain ⟨s0, s1⟩ := hSw; go_simp; try with_reducible rfl)
        try simp only [Act.put, List.setIfInBounds_toArray, List.set_cons_zero, List.set_cons_succ, List.getElem_toArray, List.getElem_cons_succ, List.getElem_cons_zero]
        refine wpAnyH_take (i := 7) (v := ?vv50) rfl (by kernel_rfl) (by kernel_rfl) (by kernel_rfl) (fun _ _ _ h => h) (Or.inl ⟨by rfl, ?hy50⟩) hHeld ?rr50
        case hy50 => (intro w' hSw; obtain ⟨s0, s1⟩ := hSw; go_simp; try with_reducible rfl)
        try simp only [Act.put, List.setIfInBounds_toArray, List.set_cons_zero, List.set_cons_succ, List.getElem_toArray, List.getElem_cons_succ, List.getElem_cons_zero]
        refine wpAnyH_done (by kernel_rfl) ?_ _
        clear hHeld
        clear a1 a2
        obtain ⟨w4, hww4⟩ : ∃ y, y = w3.drew := ⟨_, rfl⟩
        have HO4 := Lib.hid (HO3.out.drew)
        rw [← hww4] at HO4 ⊢
        clear hww4
        have a1 : w4.cell? ⟨w.heap.size, 1, none⟩ = some (.int .i64 km) := by rw [HN.out.1]; exact HO4.out.cells.2.1
        go_wp2_with (first | (go_at_call 21; refine Calls.mono (by with_reducible exact newLink_any km w4) ?_; rintro e w5 ⟨bm2, rfl, ho, hb, hl1, hl2⟩; have HOw := Lib.hid ho; have HB5 := Lib.hid hb; have HL1 := Lib.hid hl1; have HL2 := Lib.hid hl2; have hs5 := (HO4.out.ses.later hb).self; have HS5 := Lib.hid hs5; clear ho hb hl1 hl2 hs5; simp only [linkC, newL]) | (refine wpList_store_midN rfl 58 (.tmp 36) (.tmp 34) rfl p 1 (linkC (newL km) none 0 0 bm2).toArray rfl rfl 60 (sesC s A vs.length c bm) HS5.out (by kernel_rfl) (by simp [sesC, linkC]) rfl ?_; intro w6 h6 hm6; rw [HN.out.1] at h6; have HO6 := Lib.hid (HO4.out.anew HPs.out.2.2.1 HB5.out (HOw.out) HL1.out HL2.out h6 hm6); have t3 := HO6.out.ses.c3; have f3 := HO6.out.ses.free 3; clear h6 hm6))
        clear t3 f3 a1
        obtain ⟨w7, hww7⟩ : ∃ y, y = w6.setCell ⟨p, 3, none⟩ (.bool true) := ⟨_, rfl⟩
        have HO7 := Lib.hid (HO6.out.set 3 (.bool true) ⟨s.mine, { newL v.mine with helloDue := true }⟩ rfl (ok_newL HO1.out.ses.ok.mine ⟨by have := HPs.out.2.2.1; omega, HPs.out.2.2.1.2⟩ true) rfl rfl rfl)
        rw [← hww7] at HO7 ⊢
        clear hww7
        have a1 : w7.cell? ⟨w.heap.size, 2, none⟩ = some (.int .i64 ky) := by rw [HN.out.2.1]; exact HO7.out.cells.2.2.1
        have a2 : w7.cell? ⟨p, 0, none⟩ = some (.int .i64 mm) := by rw [HN.out.2.2.2.2]; exact HO7.out.ses.c0
        refine wp_region_held_drew (S := (fun V => V.cell? ⟨w.heap.size, 2, none⟩ = some (.int .i64 ky) ∧ V.cell? ⟨p, 0, none⟩ = some (.int .i64 mm))) (by kernel_rfl) ⟨a1, a2⟩ (fun hHeld => ?_)
        refine wpAnyH_take (i := 0) (v := ?vv51) rfl (by kernel_rfl) (by kernel_rfl) (by kernel_rfl) (fun _ _ _ h => h) (Or.inl ⟨by rfl, ?hy51⟩) hHeld ?rr51
        case hy51 => (intro w' hSw; obtain ⟨s0, s1⟩ := hSw; go_simp; try with_reducible rfl)
        try simp only [Act.put, List.setIfInBounds_toArray, List.set_cons_zero, List.set_cons_succ, List.getElem_toArray, List.getElem_cons_succ, List.getElem_cons_zero]
        refine wpAnyH_take (i := 1) (v := ?vv52) rfl (by kernel_rfl) (by kernel_rfl) (by kernel_rfl) (fun _ _ _ h => h) (Or.inl ⟨by rfl, ?hy52⟩) hHeld ?rr52
        case hy52 => (intro w' hSw; obtain ⟨s0, s1⟩ := hSw; go_simp; try with_reducible rfl)
        try simp only [Act.put, List.setIfInBounds_toArray, List.set_cons_zero, List.set_cons_succ, List.getElem_toArray, List.getElem_cons_succ, List.getElem_cons_zero]
        refine wpAnyH_take (i := 2) (v := ?vv53) rfl (by kernel_rfl) (by kernel_rfl) (by kernel_rfl) (fun _ _ _ h => h) (Or.inl ⟨by rfl, ?hy53⟩) hHeld ?rr53
        case hy53 => (intro w' hSw; obtain ⟨s0, s1⟩ := hSw; go_simp; try with_reducible rfl)
        try simp only [Act.put, List.setIfInBounds_toArray, List.set_cons_zero, List.set_cons_succ, List.getElem_toArray, List.getElem_cons_succ, List.getElem_cons_zero]
        refine wpAnyH_take (i := 3) (v := ?vv54) rfl (by kernel_rfl) (by kernel_rfl) (by kernel_rfl) (fun _ _ _ h => h) (Or.inl ⟨by rfl, ?hy54⟩) hHeld ?rr54
        case hy54 => (intro w' hSw; obtain ⟨s0, s1⟩ := hSw; go_simp; try with_reducible rfl)
        try simp only [Act.put, List.setIfInBounds_toArray, List.set_cons_zero, List.set_cons_succ, List.getElem_toArray, List.getElem_cons_succ, List.getElem_cons_zero]
        refine wpAnyH_take (i := 4) (v := ?vv55) rfl (by kernel_rfl) (by kernel_rfl) (by kernel_rfl) (fun _ _ _ h => h) (Or.inl ⟨by rfl, ?hy55⟩) hHeld ?rr55
        case hy55 => (intro w' hSw; obtain ⟨s0, s1⟩ := hSw; go_simp; try with_reducible rfl)
        try simp only [Act.put, List.setIfInBounds_toArray, List.set_cons_zero, List.set_cons_succ, List.getElem_toArray, List.getElem_cons_succ, List.getElem_cons_zero]
        refine wpAnyH_take (i := 5) (v := ?vv56) rfl (by kernel_rfl) (by kernel_rfl) (by kernel_rfl) (fun _ _ _ h => h) (Or.inl ⟨by rfl, ?hy56⟩) hHeld ?rr56
        case hy56 => (intro w' hSw; obtain ⟨s0, s1⟩ := hSw; go_simp; try with_reducible rfl)
        try simp only [Act.put, List.setIfInBounds_toArray, List.set_cons_zero, List.set_cons_succ, List.getElem_toArray, List.getElem_cons_succ, List.getElem_cons_zero]
        refine wpAnyH_take (i := 6) (v := ?vv57) rfl (by kernel_rfl) (by kernel_rfl) (by kernel_rfl) (fun _ _ _ h => h) (Or.inl ⟨by rfl, ?hy57⟩) hHeld ?rr57
        case hy57 => (intro w' hSw; obtain ⟨s0, s1⟩ := hSw; go_simp; try with_reducible rfl)
        try simp only [Act.put, List.setIfInBounds_toArray, List.set_cons_zero, List.set_cons_succ, List.getElem_toArray, List.getElem_cons_succ, List.getElem_cons_zero]
        refine wpAnyH_done (by kernel_rfl) ?_ _
        clear hHeld
        clear a1 a2
        obtain ⟨w8, hww8⟩ : ∃ y, y = w7.drew := ⟨_, rfl⟩
        have HO8 := Lib.hid (HO7.out.drew)
        rw [← hww8] at HO8 ⊢
        clear hww8
        have t2 := HO8.out.ses.c2
        have f2 := HO8.out.ses.free 2
        have HO9 := Lib.hid (HO8.out.set 2 (.bool true) ⟨s.mine, { ({ newL v.mine with helloDue := true } : Link) with knows := true }⟩ rfl (ok_knows HO8.out.ses.ok (by exact HPs.out.2.2.1.1)) rfl rfl rfl)
        have a0 := HO8.out.cells.1
        rw [← HN.out.2.2.1] at a0
        have hgp : ¬ w.heap.size = p := fun e => HO8.out.nin.1 (e ▸ HO8.out.ses.inF.1)
        go_wp2_with fail
        obtain ⟨w9, hww9⟩ : ∃ y, y = w8.setCell ⟨p, 2, none⟩ (.bool true) := ⟨_, rfl⟩
        have HO10 := Lib.hid (HO9.out)
        rw [← hww9] at HO10 ⊢
        clear hww9
        clear a0 t2 f2
        have a4 := HO10.out.cells.2.2.2.2.1
        refine wp_region_held_drew (S := (fun V => V.cell? ⟨w.heap.size, 4, none⟩ = some (.int .i64 v.ack))) (by kernel_rfl) a4 (fun hHeld => ?_)
        refine wpAnyH_take (i := 0) (v := ?vv58) rfl (by kernel_rfl) (by kernel_rfl) (by kernel_rfl) (fun _ _ _ h => h) (Or.inl ⟨by rfl, ?hy58⟩) hHeld ?rr58
        case hy58 => (intro w' hSw; have s0 := hSw; go_simp; try with_reducible rfl)
        try simp only [Act.put, List.setIfInBounds_toArray, List.set_cons_zero, List.set_cons_succ, List.getElem_toArray, List.getElem_cons_succ, List.getElem_cons_zero]
        refine wpAnyH_take (i := 1) (v := ?vv59) rfl (by kernel_rfl) (by kernel_rfl) (by kernel_rfl) (fun _ _ _ h => h) (Or.inl ⟨by rfl, ?hy59⟩) hHeld ?rr59
        case hy59 => (intro w' hSw; have s0 := hSw; go_simp; try with_reducible rfl)
        try simp only [Act.put, List.setIfInBounds_toArray, List.set_cons_zero, List.set_cons_succ, List.getElem_toArray, List.getElem_cons_succ, List.getElem_cons_zero]
        refine wpAnyH_take (i := 2) (v := ?vv60) rfl (by kernel_rfl) (by kernel_rfl) (by kernel_rfl) (fun _ _ _ h => h) (Or.inl ⟨by rfl, ?hy60⟩) hHeld ?rr60
        case hy60 => (intro w' hSw; have s0 := hSw; go_simp; try with_reducible rfl)
        try simp only [Act.put, List.setIfInBounds_toArray, List.set_cons_zero, List.set_cons_succ, List.getElem_toArray, List.getElem_cons_succ, List.getElem_cons_zero]
        refine wpAnyH_take (i := 3) (v := ?vv61) rfl (by kernel_rfl) (by kernel_rfl) (by kernel_rfl) (fun _ _ _ h => h) (Or.inl ⟨by rfl, ?hy61⟩) hHeld ?rr61
        case hy61 => (intro w' hSw; have s0 := hSw; go_simp; try with_reducible rfl)
        try simp only [Act.put, List.setIfInBounds_toArray, List.set_cons_zero, List.set_cons_succ, List.getElem_toArray, List.getElem_cons_succ, List.getElem_cons_zero]
        refine wpAnyH_take (i := 4) (v := ?vv62) rfl (by kernel_rfl) (by kernel_rfl) (by kernel_rfl) (fun _ _ _ h => h) (Or.inl ⟨by rfl, ?hy62⟩) hHeld ?rr62
        case hy62 => (intro w' hSw; have s0 := hSw; go_simp; try with_reducible rfl)
        try simp only [Act.put, List.setIfInBounds_toArray, List.set_cons_zero, List.set_cons_succ, List.getElem_toArray, List.getElem_cons_succ, List.getElem_cons_zero]
        refine wpAnyH_ready (rs := [5]) (by kernel_rfl) (by simp) ?_
        refine AllReadyH.cons rfl (fun K hK => ?_) AllReadyH.nil
        try rw [if_pos (by rfl)]
        go_simp
        go_at_call 22
        refine Calls.mono (letGo_any HO10.out.drew.ses v.ack HPs.out.2.1) ?_
        rintro e w11 ⟨rfl, hse, hmv, hku⟩
        obtain ⟨A11, c11, vs11, bm11, D11, hx11⟩ := hse
        have HO11 := Lib.hid (HO10.out.drew.call hx11 hmv hku)
        have a4b := HO11.out.cells.2.2.2.2.1
        clear hmv hku hx11
        go_wp2_with fail
        refine hK.out _ _ a4b (fun hHeld2 => ?_)
        clear hK K hHeld
        have hHeld := hHeld2
        clear hHeld2
        try simp only [Act.put, List.setIfInBounds_toArray, List.set_cons_zero, List.set_cons_succ, List.getElem_toArray, List.getElem_cons_succ, List.getElem_cons_zero]
        refine wpAnyH_done (by kernel_rfl) ?_ _
        clear hHeld
        clear a4 a4b
        go_wp2_with fail
        have b3 := HO11.out.cells.2.2.2.1
        have b5 := HO11.out.cells.2.2.2.2.2
        refine wp_region_held_drew (S := (fun V => V.cell? ⟨w.heap.size, 3, none⟩ = some (.int .i64 v.seq) ∧ V.cell? ⟨w.heap.size, 5, none⟩ = some (.slice A0 v.body.length c0))) (by kernel_rfl) ⟨b3, b5⟩ (fun hHeld => ?_)
        refine wpAnyH_take (i := 0) (v := ?vv63) rfl (by kernel_rfl) (by kernel_rfl) (by kernel_rfl) (fun _ _ _ h => h) (Or.inl ⟨by rfl, ?hy63⟩) hHeld ?rr63
        case hy63 => (intro w' hSw; obtain ⟨s0, s1⟩ := hSw; go_simp; try with_reducible rfl)
        try simp only [Act.put, List.setIfInBounds_toArray, List.set_cons_zero, List.set_cons_succ, List.getElem_toArray, List.getElem_cons_succ, List.getElem_cons_zero]
        refine wpAnyH_take (i := 1) (v := ?vv64) rfl (by kernel_rfl) (by kernel_rfl) (by kernel_rfl) (fun _ _ _ h => h) (Or.inl ⟨by rfl, ?hy64⟩) hHeld ?rr64
        case hy64 => (intro w' hSw; obtain ⟨s0, s1⟩ := hSw; go_simp; try with_reducible rfl)
        try simp only [Act.put, List.setIfInBounds_toArray, List.set_cons_zero, List.set_cons_succ, List.getElem_toArray, List.getElem_cons_succ, List.getElem_cons_zero]
        refine wpAnyH_take (i := 2) (v := ?vv65) rfl (by kernel_rfl) (by kernel_rfl) (by kernel_rfl) (fun _ _ _ h => h) (Or.inl ⟨by rfl, ?hy65⟩) hHeld ?rr65
        case hy65 => (intro w' hSw; obtain ⟨s0, s1⟩ := hSw; go_simp; try with_reducible rfl)
        try simp only [Act.put, List.setIfInBounds_toArray, List.set_cons_zero, List.set_cons_succ, List.getElem_toArray, List.getElem_cons_succ, List.getElem_cons_zero]
        refine wpAnyH_take (i := 3) (v := ?vv66) rfl (by kernel_rfl) (by kernel_rfl) (by kernel_rfl) (fun _ _ _ h => h) (Or.inl ⟨by rfl, ?hy66⟩) hHeld ?rr66
        case hy66 => (intro w' hSw; obtain ⟨s0, s1⟩ := hSw; go_simp; try with_reducible rfl)
        try simp only [Act.put, List.setIfInBounds_toArray, List.set_cons_zero, List.set_cons_succ, List.getElem_toArray, List.getElem_cons_succ, List.getElem_cons_zero]
        refine wpAnyH_take (i := 4) (v := ?vv67) rfl (by kernel_rfl) (by kernel_rfl) (by kernel_rfl) (fun _ _ _ h => h) (Or.inl ⟨by rfl, ?hy67⟩) hHeld ?rr67
        case hy67 => (intro w' hSw; obtain ⟨s0, s1⟩ := hSw; go_simp; try with_reducible rfl)
        try simp only [Act.put, List.setIfInBounds_toArray, List.set_cons_zero, List.set_cons_succ, List.getElem_toArray, List.getElem_cons_succ, List.getElem_cons_zero]
        refine wpAnyH_take (i := 5) (v := ?vv68) rfl (by kernel_rfl) (by kernel_rfl) (by kernel_rfl) (fun _ _ _ h => h) (Or.inl ⟨by rfl, ?hy68⟩) hHeld ?rr68
        case hy68 => (intro w' hSw; obtain ⟨s0, s1⟩ := hSw; go_simp; try with_reducible rfl)
        try simp only [Act.put, List.setIfInBounds_toArray, List.set_cons_zero, List.set_cons_succ, List.getElem_toArray, List.getElem_cons_succ, List.getElem_cons_zero]
        refine wpAnyH_take (i := 6) (v := ?vv69) rfl (by kernel_rfl) (by kernel_rfl) (by kernel_rfl) (fun _ _ _ h => h) (Or.inl ⟨by rfl, ?hy69⟩) hHeld ?rr69
        case hy69 => (intro w' hSw; obtain ⟨s0, s1⟩ := hSw; go_simp; try with_reducible rfl)
        try simp only [Act.put, List.setIfInBounds_toArray, List.set_cons_zero, List.set_cons_succ, List.getElem_toArray, List.getElem_cons_succ, List.getElem_cons_zero]
        have HPu : Hid ((letGo { ({ newL v.mine with helloDue := true } : Link) with knows := true } v.ack).puts < 1000000) := Lib.hid (by rw [(letGo_l _ _).2.2.2.1]; show 0 < 1000000; decide)
        refine wpAnyH_ready (rs := [7]) (by kernel_rfl) (by simp) ?_
        refine AllReadyH.cons rfl (fun K hK => ?_) AllReadyH.nil
        try rw [if_pos (by rfl)]
        go_simp
        go_at_call 23
        refine Calls.mono (take_any HO11.out.drew.ses HO11.out.drew.nin.2 v.seq v.body A0 c0 HO11.out.drew.byt.byt HPs.out.2.2.2 HPs.out.1 HPu.out) ?_
        rintro e w12 ⟨Ab, cb, bs, rfl, hbs, hrow, hbu, hse, hmv, hku⟩
        have HR := Lib.hid (And.intro hbs (And.intro (own_zero hrow) hbu))
        obtain ⟨A12, c12, vs12, bm12, D12, hx12⟩ := hse
        have HO12 := Lib.hid (HO11.out.drew.call hx12 hmv hku)
        have q3 := HO12.out.cells.2.2.2.1
        have q5 := HO12.out.cells.2.2.2.2.2
        clear hbs hrow hbu hmv hku hx12
        go_wp2_with fail
        refine hK.out _ _ ⟨q3, q5⟩ (fun hHeld2 => ?_)
        clear hK K hHeld
        have hHeld := hHeld2
        clear hHeld2
        try simp only [Act.put, List.setIfInBounds_toArray, List.set_cons_zero, List.set_cons_succ, List.getElem_toArray, List.getElem_cons_succ, List.getElem_cons_zero]
        refine wpAnyH_take (i := 8) (v := ?vv70) rfl (by kernel_rfl) (by kernel_rfl) (by kernel_rfl) (fun _ _ _ h => h) (Or.inl ⟨by rfl, ?hy70⟩) hHeld ?rr70
        case hy70 => (intro w' hSw; obtain ⟨s0, s1⟩ := hSw; go_simp; try with_reducible rfl)
        try simp only [Act.put, List.setIfInBounds_toArray, List.set_cons_zero, List.set_cons_succ, List.getElem_toArray, List.getElem_cons_succ, List.getElem_cons_zero]
        refine wpAnyH_done (by kernel_rfl) ?_ _
        clear hHeld
        clear b3 b5 q3 q5
        go_wp2
        go_ret3
        have hE := onS_data (s := s) HFv.out (by have := HL.out; omega) (by rw [← HN.out.2.1, ← HN.out.2.2.2.2]; exact H2.out) (by rw [← HN.out.2.2.1])
        rw [decide_eq_true (by have := HD.out; omega : s.l.yours < v.mine), freshL_new (by have := HD.out; omega)] at hE
        refine ⟨Ab, cb, bs, ?_, ?_, ?_, HR.out.2.2, ?_, ?_, HO12.out.ku⟩
        · rw [hE]; rfl
        · rw [hE]; exact HR.out.1
        · rw [hE]; exact HR.out.2.1
        · rw [hE]; exact (HO12.out.ses.wide (fun k h => h.elim .inl (fun h => .inr (by rw [h]; have h1 := HL1.out; have h2 := HO4.out.size; omega)))).se
        · have hG : ∀ k, (F k ∨ k = bm2) → F k ∨ w.heap.size ≤ k := (fun k h => h.elim .inl (fun h => .inr (by rw [h]; have h1 := HL1.out; have h2 := HO4.out.size; omega)))
          exact HO12.out.moved.weaken (fun k hk e => (hG k e.1).elim id (fun h => absurd hk (Nat.not_lt.2 h)))
      · subst h4
        go_enter Try.func10, Try.ntmps10
        go_wp2_with (first
          | rw [← HW1.out]
          | (go_at_call 19; refine Calls.mono (by with_reducible exact HC.out) ?_; rintro e w1 ⟨rfl, rfl⟩)
          | (go_at_call 20; refine Calls.mono (by with_reducible exact HFi.out) ?_; rintro e w2 ⟨rfl, hb⟩; have HB2 := Lib.hid hb; clear hb))
        have HO2 := Lib.hid (HO1.out.later HB2.out)
        clear e0 e1 e2 e3 e4 e5
        have a1 : w2.cell? ⟨w.heap.size, 1, none⟩ = some (.int .i64 km) := by rw [HN.out.1]; exact HO2.out.cells.2.1
        have a2 : w2.cell? ⟨p, 1, none⟩ = some (.int .i64 ym) := by rw [HN.out.2.2.2.1]; exact HO2.out.ses.c1
        refine wp_region_held_drew (S := (fun V => V.cell? ⟨w.heap.size, 1, none⟩ = some (.int .i64 km) ∧ V.cell? ⟨p, 1, none⟩ = some (.int .i64 ym))) (by kernel_rfl) ⟨a1, a2⟩ (fun hHeld => ?_)
        refine wpAnyH_take (i := 0) (v := ?vv71) rfl (by kernel_rfl) (by kernel_rfl) (by kernel_rfl) (fun _ _ _ h => h) (Or.inl ⟨by rfl, ?hy71⟩) hHeld ?rr71
        case hy71 => (intro w' hSw; obtain ⟨s0, s1⟩ := hSw; go_simp; try with_reducible rfl)
        try simp only [Act.put, List.setIfInBounds_toArray, List.set_cons_zero, List.set_cons_succ, List.getElem_toArray, List.getElem_cons_succ, List.getElem_cons_zero]
        refine wpAnyH_take (i := 1) (v := ?vv72) rfl (by kernel_rfl) (by kernel_rfl) (by kernel_rfl) (fun _ _ _ h => h) (Or.inl ⟨by rfl, ?hy72⟩) hHeld ?rr72
        case hy72 => (intro w' hSw; obtain ⟨s0, s1⟩ := hSw; go_simp; try with_reducible rfl)
        try simp only [Act.put, List.setIfInBounds_toArray, List.set_cons_zero, List.set_cons_succ, List.getElem_toArray, List.getElem_cons_succ, List.getElem_cons_zero]
        refine wpAnyH_take (i := 2) (v := ?vv73) rfl (by kernel_rfl) (by kernel_rfl) (by kernel_rfl) (fun _ _ _ h => h) (Or.inl ⟨by rfl, ?hy73⟩) hHeld ?rr73
        case hy73 => (intro w' hSw; obtain ⟨s0, s1⟩ := hSw; go_simp; try with_reducible rfl)
        try simp only [Act.put, List.setIfInBounds_toArray, List.set_cons_zero, List.set_cons_succ, List.getElem_toArray, List.getElem_cons_succ, List.getElem_cons_zero]
        refine wpAnyH_take (i := 3) (v := ?vv74) rfl (by kernel_rfl) (by kernel_rfl) (by kernel_rfl) (fun _ _ _ h => h) (Or.inl ⟨by rfl, ?hy74⟩) hHeld ?rr74
        case hy74 => (intro w' hSw; obtain ⟨s0, s1⟩ := hSw; go_simp; try with_reducible rfl)
        try simp only [Act.put, List.setIfInBounds_toArray, List.set_cons_zero, List.set_cons_succ, List.getElem_toArray, List.getElem_cons_succ, List.getElem_cons_zero]
        refine wpAnyH_take (i := 4) (v := ?vv75) rfl (by kernel_rfl) (by kernel_rfl) (by kernel_rfl) (fun _ _ _ h => h) (Or.inl ⟨by rfl, ?hy75⟩) hHeld ?rr75
        case hy75 => (intro w' hSw; obtain ⟨s0, s1⟩ := hSw; go_simp; try with_reducible rfl)
        try simp only [Act.put, List.setIfInBounds_toArray, List.set_cons_zero, List.set_cons_succ, List.getElem_toArray, List.getElem_cons_succ, List.getElem_cons_zero]
        refine wpAnyH_take (i := 5) (v := ?vv76) rfl (by kernel_rfl) (by kernel_rfl) (by kernel_rfl) (fun _ _ _ h => h) (Or.inl ⟨by rfl, ?hy76⟩) hHeld ?rr76
        case hy76 => (intro w' hSw; obtain ⟨s0, s1⟩ := hSw; go_simp; try with_reducible rfl)
        try simp only [Act.put, List.setIfInBounds_toArray, List.set_cons_zero, List.set_cons_succ, List.getElem_toArray, List.getElem_cons_succ, List.getElem_cons_zero]
        refine wpAnyH_take (i := 6) (v := ?vv77) rfl (by kernel_rfl) (by kernel_rfl) (by kernel_rfl) (fun _ _ _ h => h) (Or.inl ⟨by rfl, ?hy77⟩) hHeld ?rr77
        case hy77 => (intro w' hSw; obtain ⟨s0, s1⟩ := hSw; go_simp; try with_reducible rfl)
        try simp only [Act.put, List.setIfInBounds_toArray, List.set_cons_zero, List.set_cons_succ, List.getElem_toArray, List.getElem_cons_succ, List.getElem_cons_zero]
        refine wpAnyH_take (i := 7) (v := ?vv78) rfl (by kernel_rfl) (by kernel_rfl) (by kernel_rfl) (fun _ _ _ h => h) (Or.inl ⟨by rfl, ?hy78⟩) hHeld ?rr78
        case hy78 => (intro w' hSw; obtain ⟨s0, s1⟩ := hSw; go_simp; try with_reducible rfl)
        try simp only [Act.put, List.setIfInBounds_toArray, List.set_cons_zero, List.set_cons_succ, List.getElem_toArray, List.getElem_cons_succ, List.getElem_cons_zero]
        refine wpAnyH_take (i := 8) (v := ?vv79) rfl (by kernel_rfl) (by kernel_rfl) (by kernel_rfl) (fun _ _ _ h => h) (Or.inl ⟨by rfl, ?hy79⟩) hHeld ?rr79
        case hy79 => (intro w' hSw; obtain ⟨s0, s1⟩ := hSw; go_simp; try with_reducible rfl)
        try simp only [Act.put, List.setIfInBounds_toArray, List.set_cons_zero, List.set_cons_succ, List.getElem_toArray, List.getElem_cons_succ, List.getElem_cons_zero]
        refine wpAnyH_done (by kernel_rfl) ?_ _
        clear hHeld
        clear a1 a2
        obtain ⟨w3, hww3⟩ : ∃ y, y = w2.drew := ⟨_, rfl⟩
        have HO3 := Lib.hid (HO2.out.drew)
        rw [← hww3] at HO3 ⊢
        clear hww3
        go_wp2_with fail
        have a1 : w3.cell? ⟨w.heap.size, 1, none⟩ = some (.int .i64 km) := by rw [HN.out.1]; exact HO3.out.cells.2.1
        have a2 : w3.cell? ⟨p, 1, none⟩ = some (.int .i64 ym) := by rw [HN.out.2.2.2.1]; exact HO3.out.ses.c1
        refine wp_region_held_drew (S := (fun V => V.cell? ⟨w.heap.size, 1, none⟩ = some (.int .i64 km) ∧ V.cell? ⟨p, 1, none⟩ = some (.int .i64 ym))) (by kernel_rfl) ⟨a1, a2⟩ (fun hHeld => ?_)
        refine wpAnyH_take (i := 0) (v := ?vv80) rfl (by kernel_rfl) (by kernel_rfl) (by kernel_rfl) (fun _ _ _ h => h) (Or.inl ⟨by rfl, ?hy80⟩) hHeld ?rr80
        case hy80 => (intro w' hSw; obtain ⟨s0, s1⟩ := hSw; go_simp; try with_reducible rfl)
        try simp only [Act.put, List.setIfInBounds_toArray, List.set_cons_zero, List.set_cons_succ, List.getElem_toArray, List.getElem_cons_succ, List.getElem_cons_zero]
        refine wpAnyH_take (i := 1) (v := ?vv81) rfl (by kernel_rfl) (by kernel_rfl) (by kernel_rfl) (fun _ _ _ h => h) (Or.inl ⟨by rfl, ?hy81⟩) hHeld ?rr81
        case hy81 => (intro w' hSw; obtain ⟨s0, s1⟩ := hSw; go_simp; try with_reducible rfl)
        try simp only [Act.put, List.setIfInBounds_toArray, List.set_cons_zero, List.set_cons_succ, List.getElem_toArray, List.getElem_cons_succ, List.getElem_cons_zero]
        refine wpAnyH_take (i := 2) (v := ?vv82) rfl (by kernel_rfl) (by kernel_rfl) (by kernel_rfl) (fun _ _ _ h => h) (Or.inl ⟨by rfl, ?hy82⟩) hHeld ?rr82
        case hy82 => (intro w' hSw; obtain ⟨s0, s1⟩ := hSw; go_simp; try with_reducible rfl)
        try simp only [Act.put, List.setIfInBounds_toArray, List.set_cons_zero, List.set_cons_succ, List.getElem_toArray, List.getElem_cons_succ, List.getElem_cons_zero]
        refine wpAnyH_take (i := 3) (v := ?vv83) rfl (by kernel_rfl) (by kernel_rfl) (by kernel_rfl) (fun _ _ _ h => h) (Or.inl ⟨by rfl, ?hy83⟩) hHeld ?rr83
        case hy83 => (intro w' hSw; obtain ⟨s0, s1⟩ := hSw; go_simp; try with_reducible rfl)
        try simp only [Act.put, List.setIfInBounds_toArray, List.set_cons_zero, List.set_cons_succ, List.getElem_toArray, List.getElem_cons_succ, List.getElem_cons_zero]
        refine wpAnyH_take (i := 4) (v := ?vv84) rfl (by kernel_rfl) (by kernel_rfl) (by kernel_rfl) (fun _ _ _ h => h) (Or.inl ⟨by rfl, ?hy84⟩) hHeld ?rr84
        case hy84 => (intro w' hSw; obtain ⟨s0, s1⟩ := hSw; go_simp; try with_reducible rfl)
        try simp only [Act.put, List.setIfInBounds_toArray, List.set_cons_zero, List.set_cons_succ, List.getElem_toArray, List.getElem_cons_succ, List.getElem_cons_zero]
        refine wpAnyH_take (i := 5) (v := ?vv85) rfl (by kernel_rfl) (by kernel_rfl) (by kernel_rfl) (fun _ _ _ h => h) (Or.inl ⟨by rfl, ?hy85⟩) hHeld ?rr85
        case hy85 => (intro w' hSw; obtain ⟨s0, s1⟩ := hSw; go_simp; try with_reducible rfl)
        try simp only [Act.put, List.setIfInBounds_toArray, List.set_cons_zero, List.set_cons_succ, List.getElem_toArray, List.getElem_cons_succ, List.getElem_cons_zero]
        refine wpAnyH_take (i := 6) (v := ?vv86) rfl (by kernel_rfl) (by kernel_rfl) (by kernel_rfl) (fun _ _ _ h => h) (Or.inl ⟨by rfl, ?hy86⟩) hHeld ?rr86
        case hy86 => (intro w' hSw; obtain ⟨s0, s1⟩ := hSw; go_simp; try with_reducible rfl)
        try simp only [Act.put, List.setIfInBounds_toArray, List.set_cons_zero, List.set_cons_succ, List.getElem_toArray, List.getElem_cons_succ, List.getElem_cons_zero]
        refine wpAnyH_take (i := 7) (v := ?vv87) rfl (by kernel_rfl) (by kernel_rfl) (by kernel_rfl) (fun _ _ _ h => h) (Or.inl ⟨by rfl, ?hy87⟩) hHeld ?rr87
        case hy87 => (intro w' hSw; obtain ⟨s0, s1⟩ := hSw; go_simp; try with_reducible rfl)
        try simp only [Act.put, List.setIfInBounds_toArray, List.set_cons_zero, List.set_cons_succ, List.getElem_toArray, List.getElem_cons_succ, List.getElem_cons_zero]
        refine wpAnyH_done (by kernel_rfl) ?_ _
        clear hHeld
        clear a1 a2
        obtain ⟨w4, hww4⟩ : ∃ y, y = w3.drew := ⟨_, rfl⟩
        have HO4 := Lib.hid (HO3.out.drew)
        rw [← hww4] at HO4 ⊢
        clear hww4
        have a1 : w4.cell? ⟨w.heap.size, 1, none⟩ = some (.int .i64 km) := by rw [HN.out.1]; exact HO4.out.cells.2.1
        go_wp2_with (first | (go_at_call 21; refine Calls.mono (by with_reducible exact newLink_any km w4) ?_; rintro e w5 ⟨bm2, rfl, ho, hb, hl1, hl2⟩; have HOw := Lib.hid ho; have HB5 := Lib.hid hb; have HL1 := Lib.hid hl1; have HL2 := Lib.hid hl2; have hs5 := (HO4.out.ses.later hb).self; have HS5 := Lib.hid hs5; clear ho hb hl1 hl2 hs5; simp only [linkC, newL]) | (refine wpList_store_midN rfl 58 (.tmp 36) (.tmp 34) rfl p 1 (linkC (newL km) none 0 0 bm2).toArray rfl rfl 60 (sesC s A vs.length c bm) HS5.out (by kernel_rfl) (by simp [sesC, linkC]) rfl ?_; intro w6 h6 hm6; rw [HN.out.1] at h6; have HO6 := Lib.hid (HO4.out.anew HPs.out.2.2.1 HB5.out (HOw.out) HL1.out HL2.out h6 hm6); have t3 := HO6.out.ses.c3; have f3 := HO6.out.ses.free 3; clear h6 hm6))
        clear t3 f3 a1
        obtain ⟨w7, hww7⟩ : ∃ y, y = w6.setCell ⟨p, 3, none⟩ (.bool true) := ⟨_, rfl⟩
        have HO7 := Lib.hid (HO6.out.set 3 (.bool true) ⟨s.mine, { newL v.mine with helloDue := true }⟩ rfl (ok_newL HO1.out.ses.ok.mine ⟨by have := HPs.out.2.2.1; omega, HPs.out.2.2.1.2⟩ true) rfl rfl rfl)
        rw [← hww7] at HO7 ⊢
        clear hww7
        have a1 : w7.cell? ⟨w.heap.size, 2, none⟩ = some (.int .i64 ky) := by rw [HN.out.2.1]; exact HO7.out.cells.2.2.1
        have a2 : w7.cell? ⟨p, 0, none⟩ = some (.int .i64 mm) := by rw [HN.out.2.2.2.2]; exact HO7.out.ses.c0
        refine wp_region_held_drew (S := (fun V => V.cell? ⟨w.heap.size, 2, none⟩ = some (.int .i64 ky) ∧ V.cell? ⟨p, 0, none⟩ = some (.int .i64 mm))) (by kernel_rfl) ⟨a1, a2⟩ (fun hHeld => ?_)
        refine wpAnyH_take (i := 0) (v := ?vv88) rfl (by kernel_rfl) (by kernel_rfl) (by kernel_rfl) (fun _ _ _ h => h) (Or.inl ⟨by rfl, ?hy88⟩) hHeld ?rr88
        case hy88 => (intro w' hSw; obtain ⟨s0, s1⟩ := hSw; go_simp; try with_reducible rfl)
        try simp only [Act.put, List.setIfInBounds_toArray, List.set_cons_zero, List.set_cons_succ, List.getElem_toArray, List.getElem_cons_succ, List.getElem_cons_zero]
        refine wpAnyH_take (i := 1) (v := ?vv89) rfl (by kernel_rfl) (by kernel_rfl) (by kernel_rfl) (fun _ _ _ h => h) (Or.inl ⟨by rfl, ?hy89⟩) hHeld ?rr89
        case hy89 => (intro w' hSw; obtain ⟨s0, s1⟩ := hSw; go_simp; try with_reducible rfl)
        try simp only [Act.put, List.setIfInBounds_toArray, List.set_cons_zero, List.set_cons_succ, List.getElem_toArray, List.getElem_cons_succ, List.getElem_cons_zero]
        refine wpAnyH_take (i := 2) (v := ?vv90) rfl (by kernel_rfl) (by kernel_rfl) (by kernel_rfl) (fun _ _ _ h => h) (Or.inl ⟨by rfl, ?hy90⟩) hHeld ?rr90
        case hy90 => (intro w' hSw; obtain ⟨s0, s1⟩ := hSw; go_simp; try with_reducible rfl)
        try simp only [Act.put, List.setIfInBounds_toArray, List.set_cons_zero, List.set_cons_succ, List.getElem_toArray, List.getElem_cons_succ, List.getElem_cons_zero]
        refine wpAnyH_take (i := 3) (v := ?vv91) rfl (by kernel_rfl) (by kernel_rfl) (by kernel_rfl) (fun _ _ _ h => h) (Or.inl ⟨by rfl, ?hy91⟩) hHeld ?rr91
        case hy91 => (intro w' hSw; obtain ⟨s0, s1⟩ := hSw; go_simp; try with_reducible rfl)
        try simp only [Act.put, List.setIfInBounds_toArray, List.set_cons_zero, List.set_cons_succ, List.getElem_toArray, List.getElem_cons_succ, List.getElem_cons_zero]
        refine wpAnyH_take (i := 4) (v := ?vv92) rfl (by kernel_rfl) (by kernel_rfl) (by kernel_rfl) (fun _ _ _ h => h) (Or.inl ⟨by rfl, ?hy92⟩) hHeld ?rr92
        case hy92 => (intro w' hSw; obtain ⟨s0, s1⟩ := hSw; go_simp; try with_reducible rfl)
        try simp only [Act.put, List.setIfInBounds_toArray, List.set_cons_zero, List.set_cons_succ, List.getElem_toArray, List.getElem_cons_succ, List.getElem_cons_zero]
        refine wpAnyH_take (i := 5) (v := ?vv93) rfl (by kernel_rfl) (by kernel_rfl) (by kernel_rfl) (fun _ _ _ h => h) (Or.inl ⟨by rfl, ?hy93⟩) hHeld ?rr93
        case hy93 => (intro w' hSw; obtain ⟨s0, s1⟩ := hSw; go_simp; try with_reducible rfl)
        try simp only [Act.put, List.setIfInBounds_toArray, List.set_cons_zero, List.set_cons_succ, List.getElem_toArray, List.getElem_cons_succ, List.getElem_cons_zero]
        refine wpAnyH_take (i := 6) (v := ?vv94) rfl (by kernel_rfl) (by kernel_rfl) (by kernel_rfl) (fun _ _ _ h => h) (Or.inl ⟨by rfl, ?hy94⟩) hHeld ?rr94
        case hy94 => (intro w' hSw; obtain ⟨s0, s1⟩ := hSw; go_simp; try with_reducible rfl)
        try simp only [Act.put, List.setIfInBounds_toArray, List.set_cons_zero, List.set_cons_succ, List.getElem_toArray, List.getElem_cons_succ, List.getElem_cons_zero]
        refine wpAnyH_done (by kernel_rfl) ?_ _
        clear hHeld
        clear a1 a2
        obtain ⟨w8, hww8⟩ : ∃ y, y = w7.drew := ⟨_, rfl⟩
        have HO8 := Lib.hid (HO7.out.drew)
        rw [← hww8] at HO8 ⊢
        clear hww8
        have t2 := HO8.out.ses.c2
        have f2 := HO8.out.ses.free 2
        have HO9 := Lib.hid (HO8.out.set 2 (.bool true) ⟨s.mine, { ({ newL v.mine with helloDue := true } : Link) with knows := true }⟩ rfl (ok_knows HO8.out.ses.ok (by exact HPs.out.2.2.1.1)) rfl rfl rfl)
        have a0 := HO8.out.cells.1
        rw [← HN.out.2.2.1] at a0
        have hgp : ¬ w.heap.size = p := fun e => HO8.out.nin.1 (e ▸ HO8.out.ses.inF.1)
        go_wp2_with fail
        obtain ⟨w9, hww9⟩ : ∃ y, y = w8.setCell ⟨p, 2, none⟩ (.bool true) := ⟨_, rfl⟩
        have HO10 := Lib.hid (HO9.out)
        rw [← hww9] at HO10 ⊢
        clear hww9
        clear a0 t2 f2
        have a4 := HO10.out.cells.2.2.2.2.1
        refine wp_region_held_drew (S := (fun V => V.cell? ⟨w.heap.size, 4, none⟩ = some (.int .i64 v.ack))) (by kernel_rfl) a4 (fun hHeld => ?_)
        refine wpAnyH_take (i := 0) (v := ?vv95) rfl (by kernel_rfl) (by kernel_rfl) (by kernel_rfl) (fun _ _ _ h => h) (Or.inl ⟨by rfl, ?hy95⟩) hHeld ?rr95
        case hy95 => (intro w' hSw; have s0 := hSw; go_simp; try with_reducible rfl)
        try simp only [Act.put, List.setIfInBounds_toArray, List.set_cons_zero, List.set_cons_succ, List.getElem_toArray, List.getElem_cons_succ, List.getElem_cons_zero]
        refine wpAnyH_take (i := 1) (v := ?vv96) rfl (by kernel_rfl) (by kernel_rfl) (by kernel_rfl) (fun _ _ _ h => h) (Or.inl ⟨by rfl, ?hy96⟩) hHeld ?rr96
        case hy96 => (intro w' hSw; have s0 := hSw; go_simp; try with_reducible rfl)
        try simp only [Act.put, List.setIfInBounds_toArray, List.set_cons_zero, List.set_cons_succ, List.getElem_toArray, List.getElem_cons_succ, List.getElem_cons_zero]
        refine wpAnyH_take (i := 2) (v := ?vv97) rfl (by kernel_rfl) (by kernel_rfl) (by kernel_rfl) (fun _ _ _ h => h) (Or.inl ⟨by rfl, ?hy97⟩) hHeld ?rr97
        case hy97 => (intro w' hSw; have s0 := hSw; go_simp; try with_reducible rfl)
        try simp only [Act.put, List.setIfInBounds_toArray, List.set_cons_zero, List.set_cons_succ, List.getElem_toArray, List.getElem_cons_succ, List.getElem_cons_zero]
        refine wpAnyH_take (i := 3) (v := ?vv98) rfl (by kernel_rfl) (by kernel_rfl) (by kernel_rfl) (fun _ _ _ h => h) (Or.inl ⟨by rfl, ?hy98⟩) hHeld ?rr98
        case hy98 => (intro w' hSw; have s0 := hSw; go_simp; try with_reducible rfl)
        try simp only [Act.put, List.setIfInBounds_toArray, List.set_cons_zero, List.set_cons_succ, List.getElem_toArray, List.getElem_cons_succ, List.getElem_cons_zero]
        refine wpAnyH_take (i := 4) (v := ?vv99) rfl (by kernel_rfl) (by kernel_rfl) (by kernel_rfl) (fun _ _ _ h => h) (Or.inl ⟨by rfl, ?hy99⟩) hHeld ?rr99
        case hy99 => (intro w' hSw; have s0 := hSw; go_simp; try with_reducible rfl)
        try simp only [Act.put, List.setIfInBounds_toArray, List.set_cons_zero, List.set_cons_succ, List.getElem_toArray, List.getElem_cons_succ, List.getElem_cons_zero]
        refine wpAnyH_ready (rs := [5]) (by kernel_rfl) (by simp) ?_
        refine AllReadyH.cons rfl (fun K hK => ?_) AllReadyH.nil
        try rw [if_pos (by rfl)]
        go_simp
        go_at_call 22
        refine Calls.mono (letGo_any HO10.out.drew.ses v.ack HPs.out.2.1) ?_
        rintro e w11 ⟨rfl, hse, hmv, hku⟩
        obtain ⟨A11, c11, vs11, bm11, D11, hx11⟩ := hse
        have HO11 := Lib.hid (HO10.out.drew.call hx11 hmv hku)
        have a4b := HO11.out.cells.2.2.2.2.1
        clear hmv hku hx11
        go_wp2_with fail
        refine hK.out _ _ a4b (fun hHeld2 => ?_)
        clear hK K hHeld
        have hHeld := hHeld2
        clear hHeld2
        try simp only [Act.put, List.setIfInBounds_toArray, List.set_cons_zero, List.set_cons_succ, List.getElem_toArray, List.getElem_cons_succ, List.getElem_cons_zero]
        refine wpAnyH_done (by kernel_rfl) ?_ _
        clear hHeld
        clear a4 a4b
        go_wp2
        go_ret3
        refine HO11.out.post0 (fun k h => h.elim .inl (fun h => .inr (by rw [h]; have h1 := HL1.out; have h2 := HO4.out.size; omega))) ?_
        rw [onS_ack HFv.out (by have := HL.out; omega) (by rw [← HN.out.2.1, ← HN.out.2.2.2.2]; exact H2.out) (by rw [← HN.out.2.2.1]), decide_eq_true (by have := HD.out; omega : s.l.yours < v.mine), freshL_new (by have := HD.out; omega)]
    have H2 : Hid (ky ≠ mm) := Lib.hid h3
    have h3b : (ky != mm) = true := by simp [h3]
    have h3c : (ky == mm) = false := by simp [h3]
    go_enter Try.func10, Try.ntmps10
    go_wp2_with (first
      | rw [← HW1.out]
      | (go_at_call 19; refine Calls.mono (by with_reducible exact HC.out) ?_; rintro e w1 ⟨rfl, rfl⟩)
      | (go_at_call 20; refine Calls.mono (by with_reducible exact HFi.out) ?_; rintro e w2 ⟨rfl, hb⟩; have HB2 := Lib.hid hb; clear hb))
    have HO2 := Lib.hid (HO1.out.later HB2.out)
    clear e0 e1 e2 e3 e4 e5
    have a1 : w2.cell? ⟨w.heap.size, 1, none⟩ = some (.int .i64 km) := by rw [HN.out.1]; exact HO2.out.cells.2.1
    have a2 : w2.cell? ⟨p, 1, none⟩ = some (.int .i64 ym) := by rw [HN.out.2.2.2.1]; exact HO2.out.ses.c1
    refine wp_region_held_drew (S := (fun V => V.cell? ⟨w.heap.size, 1, none⟩ = some (.int .i64 km) ∧ V.cell? ⟨p, 1, none⟩ = some (.int .i64 ym))) (by kernel_rfl) ⟨a1, a2⟩ (fun hHeld => ?_)
    refine wpAnyH_take (i := 0) (v := ?vv100) rfl (by kernel_rfl) (by kernel_rfl) (by kernel_rfl) (fun _ _ _ h => h) (Or.inl ⟨by rfl, ?hy100⟩) hHeld ?rr100
    case hy100 => (intro w' hSw; obtain ⟨s0, s1⟩ := hSw; go_simp; try with_reducible rfl)
    try simp only [Act.put, List.setIfInBounds_toArray, List.set_cons_zero, List.set_cons_succ, List.getElem_toArray, List.getElem_cons_succ, List.getElem_cons_zero]
    refine wpAnyH_take (i := 1) (v := ?vv101) rfl (by kernel_rfl) (by kernel_rfl) (by kernel_rfl) (fun _ _ _ h => h) (Or.inl ⟨by rfl, ?hy101⟩) hHeld ?rr101
    case hy101 => (intro w' hSw; obtain ⟨s0, s1⟩ := hSw; go_simp; try with_reducible rfl)
    try simp only [Act.put, List.setIfInBounds_toArray, List.set_cons_zero, List.set_cons_succ, List.getElem_toArray, List.getElem_cons_succ, List.getElem_cons_zero]
    refine wpAnyH_take (i := 2) (v := ?vv102) rfl (by kernel_rfl) (by kernel_rfl) (by kernel_rfl) (fun _ _ _ h => h) (Or.inl ⟨by rfl, ?hy102⟩) hHeld ?rr102
    case hy102 => (intro w' hSw; obtain ⟨s0, s1⟩ := hSw; go_simp; try with_reducible rfl)
    try simp only [Act.put, List.setIfInBounds_toArray, List.set_cons_zero, List.set_cons_succ, List.getElem_toArray, List.getElem_cons_succ, List.getElem_cons_zero]
    refine wpAnyH_take (i := 3) (v := ?vv103) rfl (by kernel_rfl) (by kernel_rfl) (by kernel_rfl) (fun _ _ _ h => h) (Or.inl ⟨by rfl, ?hy103⟩) hHeld ?rr103
    case hy103 => (intro w' hSw; obtain ⟨s0, s1⟩ := hSw; go_simp; try with_reducible rfl)
    try simp only [Act.put, List.setIfInBounds_toArray, List.set_cons_zero, List.set_cons_succ, List.getElem_toArray, List.getElem_cons_succ, List.getElem_cons_zero]
    refine wpAnyH_take (i := 4) (v := ?vv104) rfl (by kernel_rfl) (by kernel_rfl) (by kernel_rfl) (fun _ _ _ h => h) (Or.inl ⟨by rfl, ?hy104⟩) hHeld ?rr104
    case hy104 => (intro w' hSw; obtain ⟨s0, s1⟩ := hSw; go_simp; try with_reducible rfl)
    try simp only [Act.put, List.setIfInBounds_toArray, List.set_cons_zero, List.set_cons_succ, List.getElem_toArray, List.getElem_cons_succ, List.getElem_cons_zero]
    refine wpAnyH_take (i := 5) (v := ?vv105) rfl (by kernel_rfl) (by kernel_rfl) (by kernel_rfl) (fun _ _ _ h => h) (Or.inl ⟨by rfl, ?hy105⟩) hHeld ?rr105
    case hy105 => (intro w' hSw; obtain ⟨s0, s1⟩ := hSw; go_simp; try with_reducible rfl)
    try simp only [Act.put, List.setIfInBounds_toArray, List.set_cons_zero, List.set_cons_succ, List.getElem_toArray, List.getElem_cons_succ, List.getElem_cons_zero]
    refine wpAnyH_take (i := 6) (v := ?vv106) rfl (by kernel_rfl) (by kernel_rfl) (by kernel_rfl) (fun _ _ _ h => h) (Or.inl ⟨by rfl, ?hy106⟩) hHeld ?rr106
    case hy106 => (intro w' hSw; obtain ⟨s0, s1⟩ := hSw; go_simp; try with_reducible rfl)
    try simp only [Act.put, List.setIfInBounds_toArray, List.set_cons_zero, List.set_cons_succ, List.getElem_toArray, List.getElem_cons_succ, List.getElem_cons_zero]
    refine wpAnyH_take (i := 7) (v := ?vv107) rfl (by kernel_rfl) (by kernel_rfl) (by kernel_rfl) (fun _ _ _ h => h) (Or.inl ⟨by rfl, ?hy107⟩) hHeld ?rr107
    case hy107 => (intro w' hSw; obtain ⟨s0, s1⟩ := hSw; go_simp; try with_reducible rfl)
    try simp only [Act.put, List.setIfInBounds_toArray, List.set_cons_zero, List.set_cons_succ, List.getElem_toArray, List.getElem_cons_succ, List.getElem_cons_zero]
    refine wpAnyH_take (i := 8) (v := ?vv108) rfl (by kernel_rfl) (by kernel_rfl) (by kernel_rfl) (fun _ _ _ h => h) (Or.inl ⟨by rfl, ?hy108⟩) hHeld ?rr108
    case hy108 => (intro w' hSw; obtain ⟨s0, s1⟩ := hSw; go_simp; try with_reducible rfl)
    try simp only [Act.put, List.setIfInBounds_toArray, List.set_cons_zero, List.set_cons_succ, List.getElem_toArray, List.getElem_cons_succ, List.getElem_cons_zero]
    refine wpAnyH_done (by kernel_rfl) ?_ _
    clear hHeld
    clear a1 a2
    obtain ⟨w3, hww3⟩ : ∃ y, y = w2.drew := ⟨_, rfl⟩
    have HO3 := Lib.hid (HO2.out.drew)
    rw [← hww3] at HO3 ⊢
    clear hww3
    go_wp2_with fail
    have a1 : w3.cell? ⟨w.heap.size, 1, none⟩ = some (.int .i64 km) := by rw [HN.out.1]; exact HO3.out.cells.2.1
    have a2 : w3.cell? ⟨p, 1, none⟩ = some (.int .i64 ym) := by rw [HN.out.2.2.2.1]; exact HO3.out.ses.c1
    refine wp_region_held_drew (S := (fun V => V.cell? ⟨w.heap.size, 1, none⟩ = some (.int .i64 km) ∧ V.cell? ⟨p, 1, none⟩ = some (.int .i64 ym))) (by kernel_rfl) ⟨a1, a2⟩ (fun hHeld => ?_)
    refine wpAnyH_take (i := 0) (v := ?vv109) rfl (by kernel_rfl) (by kernel_rfl) (by kernel_rfl) (fun _ _ _ h => h) (Or.inl ⟨by rfl, ?hy109⟩) hHeld ?rr109
    case hy109 => (intro w' hSw; obtain ⟨s0, s1⟩ := hSw; go_simp; try with_reducible rfl)
    try simp only [Act.put, List.setIfInBounds_toArray, List.set_cons_zero, List.set_cons_succ, List.getElem_toArray, List.getElem_cons_succ, List.getElem_cons_zero]
    refine wpAnyH_take (i := 1) (v := ?vv110) rfl (by kernel_rfl) (by kernel_rfl) (by kernel_rfl) (fun _ _ _ h => h) (Or.inl ⟨by rfl, ?hy110⟩) hHeld ?rr110
    case hy110 => (intro w' hSw; obtain ⟨s0, s1⟩ := hSw; go_simp; try with_reducible rfl)
    try simp only [Act.put, List.setIfInBounds_toArray, List.set_cons_zero, List.set_cons_succ, List.getElem_toArray, List.getElem_cons_succ, List.getElem_cons_zero]
    refine wpAnyH_take (i := 2) (v := ?vv111) rfl (by kernel_rfl) (by kernel_rfl) (by kernel_rfl) (fun _ _ _ h => h) (Or.inl ⟨by rfl, ?hy111⟩) hHeld ?rr111
    case hy111 => (intro w' hSw; obtain ⟨s0, s1⟩ := hSw; go_simp; try with_reducible rfl)
    try simp only [Act.put, List.setIfInBounds_toArray, List.set_cons_zero, List.set_cons_succ, List.getElem_toArray, List.getElem_cons_succ, List.getElem_cons_zero]
    refine wpAnyH_take (i := 3) (v := ?vv112) rfl (by kernel_rfl) (by kernel_rfl) (by kernel_rfl) (fun _ _ _ h => h) (Or.inl ⟨by rfl, ?hy112⟩) hHeld ?rr112
    case hy112 => (intro w' hSw; obtain ⟨s0, s1⟩ := hSw; go_simp; try with_reducible rfl)
    try simp only [Act.put, List.setIfInBounds_toArray, List.set_cons_zero, List.set_cons_succ, List.getElem_toArray, List.getElem_cons_succ, List.getElem_cons_zero]
    refine wpAnyH_take (i := 4) (v := ?vv113) rfl (by kernel_rfl) (by kernel_rfl) (by kernel_rfl) (fun _ _ _ h => h) (Or.inl ⟨by rfl, ?hy113⟩) hHeld ?rr113
    case hy113 => (intro w' hSw; obtain ⟨s0, s1⟩ := hSw; go_simp; try with_reducible rfl)
    try simp only [Act.put, List.setIfInBounds_toArray, List.set_cons_zero, List.set_cons_succ, List.getElem_toArray, List.getElem_cons_succ, List.getElem_cons_zero]
    refine wpAnyH_take (i := 5) (v := ?vv114) rfl (by kernel_rfl) (by kernel_rfl) (by kernel_rfl) (fun _ _ _ h => h) (Or.inl ⟨by rfl, ?hy114⟩) hHeld ?rr114
    case hy114 => (intro w' hSw; obtain ⟨s0, s1⟩ := hSw; go_simp; try with_reducible rfl)
    try simp only [Act.put, List.setIfInBounds_toArray, List.set_cons_zero, List.set_cons_succ, List.getElem_toArray, List.getElem_cons_succ, List.getElem_cons_zero]
    refine wpAnyH_take (i := 6) (v := ?vv115) rfl (by kernel_rfl) (by kernel_rfl) (by kernel_rfl) (fun _ _ _ h => h) (Or.inl ⟨by rfl, ?hy115⟩) hHeld ?rr115
    case hy115 => (intro w' hSw; obtain ⟨s0, s1⟩ := hSw; go_simp; try with_reducible rfl)
    try simp only [Act.put, List.setIfInBounds_toArray, List.set_cons_zero, List.set_cons_succ, List.getElem_toArray, List.getElem_cons_succ, List.getElem_cons_zero]
    refine wpAnyH_take (i := 7) (v := ?vv116) rfl (by kernel_rfl) (by kernel_rfl) (by kernel_rfl) (fun _ _ _ h => h) (Or.inl ⟨by rfl, ?hy116⟩) hHeld ?rr116
    case hy116 => (intro w' hSw; obtain ⟨s0, s1⟩ := hSw; go_simp; try with_reducible rfl)
    try simp only [Act.put, List.setIfInBounds_toArray, List.set_cons_zero, List.set_cons_succ, List.getElem_toArray, List.getElem_cons_succ, List.getElem_cons_zero]
    refine wpAnyH_done (by kernel_rfl) ?_ _
    clear hHeld
    clear a1 a2
    obtain ⟨w4, hww4⟩ : ∃ y, y = w3.drew := ⟨_, rfl⟩
    have HO4 := Lib.hid (HO3.out.drew)
    rw [← hww4] at HO4 ⊢
    clear hww4
    have a1 : w4.cell? ⟨w.heap.size, 1, none⟩ = some (.int .i64 km) := by rw [HN.out.1]; exact HO4.out.cells.2.1
    go_wp2_with (first | (go_at_call 21; refine Calls.mono (by with_reducible exact newLink_any km w4) ?_; rintro e w5 ⟨bm2, rfl, ho, hb, hl1, hl2⟩; have HOw := Lib.hid ho; have HB5 := Lib.hid hb; have HL1 := Lib.hid hl1; have HL2 := Lib.hid hl2; have hs5 := (HO4.out.ses.later hb).self; have HS5 := Lib.hid hs5; clear ho hb hl1 hl2 hs5; simp only [linkC, newL]) | (refine wpList_store_midN rfl 58 (.tmp 36) (.tmp 34) rfl p 1 (linkC (newL km) none 0 0 bm2).toArray rfl rfl 60 (sesC s A vs.length c bm) HS5.out (by kernel_rfl) (by simp [sesC, linkC]) rfl ?_; intro w6 h6 hm6; rw [HN.out.1] at h6; have HO6 := Lib.hid (HO4.out.anew HPs.out.2.2.1 HB5.out (HOw.out) HL1.out HL2.out h6 hm6); have t3 := HO6.out.ses.c3; have f3 := HO6.out.ses.free 3; clear h6 hm6))
    clear t3 f3 a1
    obtain ⟨w7, hww7⟩ : ∃ y, y = w6.setCell ⟨p, 3, none⟩ (.bool true) := ⟨_, rfl⟩
    have HO7 := Lib.hid (HO6.out.set 3 (.bool true) ⟨s.mine, { newL v.mine with helloDue := true }⟩ rfl (ok_newL HO1.out.ses.ok.mine ⟨by have := HPs.out.2.2.1; omega, HPs.out.2.2.1.2⟩ true) rfl rfl rfl)
    rw [← hww7] at HO7 ⊢
    clear hww7
    have a1 : w7.cell? ⟨w.heap.size, 2, none⟩ = some (.int .i64 ky) := by rw [HN.out.2.1]; exact HO7.out.cells.2.2.1
    have a2 : w7.cell? ⟨p, 0, none⟩ = some (.int .i64 mm) := by rw [HN.out.2.2.2.2]; exact HO7.out.ses.c0
    refine wp_region_held_drew (S := (fun V => V.cell? ⟨w.heap.size, 2, none⟩ = some (.int .i64 ky) ∧ V.cell? ⟨p, 0, none⟩ = some (.int .i64 mm))) (by kernel_rfl) ⟨a1, a2⟩ (fun hHeld => ?_)
    refine wpAnyH_take (i := 0) (v := ?vv117) rfl (by kernel_rfl) (by kernel_rfl) (by kernel_rfl) (fun _ _ _ h => h) (Or.inl ⟨by rfl, ?hy117⟩) hHeld ?rr117
    case hy117 => (intro w' hSw; obtain ⟨s0, s1⟩ := hSw; go_simp; try with_reducible rfl)
    try simp only [Act.put, List.setIfInBounds_toArray, List.set_cons_zero, List.set_cons_succ, List.getElem_toArray, List.getElem_cons_succ, List.getElem_cons_zero]
    refine wpAnyH_take (i := 1) (v := ?vv118) rfl (by kernel_rfl) (by kernel_rfl) (by kernel_rfl) (fun _ _ _ h => h) (Or.inl ⟨by rfl, ?hy118⟩) hHeld ?rr118
    case hy118 => (intro w' hSw; obtain ⟨s0, s1⟩ := hSw; go_simp; try with_reducible rfl)
    try simp only [Act.put, List.setIfInBounds_toArray, List.set_cons_zero, List.set_cons_succ, List.getElem_toArray, List.getElem_cons_succ, List.getElem_cons_zero]
    refine wpAnyH_take (i := 2) (v := ?vv119) rfl (by kernel_rfl) (by kernel_rfl) (by kernel_rfl) (fun _ _ _ h => h) (Or.inl ⟨by rfl, ?hy119⟩) hHeld ?rr119
    case hy119 => (intro w' hSw; obtain ⟨s0, s1⟩ := hSw; go_simp; try with_reducible rfl)
    try simp only [Act.put, List.setIfInBounds_toArray, List.set_cons_zero, List.set_cons_succ, List.getElem_toArray, List.getElem_cons_succ, List.getElem_cons_zero]
    refine wpAnyH_take (i := 3) (v := ?vv120) rfl (by kernel_rfl) (by kernel_rfl) (by kernel_rfl) (fun _ _ _ h => h) (Or.inl ⟨by rfl, ?hy120⟩) hHeld ?rr120
    case hy120 => (intro w' hSw; obtain ⟨s0, s1⟩ := hSw; go_simp; try with_reducible rfl)
    try simp only [Act.put, List.setIfInBounds_toArray, List.set_cons_zero, List.set_cons_succ, List.getElem_toArray, List.getElem_cons_succ, List.getElem_cons_zero]
    refine wpAnyH_take (i := 4) (v := ?vv121) rfl (by kernel_rfl) (by kernel_rfl) (by kernel_rfl) (fun _ _ _ h => h) (Or.inl ⟨by rfl, ?hy121⟩) hHeld ?rr121
    case hy121 => (intro w' hSw; obtain ⟨s0, s1⟩ := hSw; go_simp; try with_reducible rfl)
    try simp only [Act.put, List.setIfInBounds_toArray, List.set_cons_zero, List.set_cons_succ, List.getElem_toArray, List.getElem_cons_succ, List.getElem_cons_zero]
    refine wpAnyH_take (i := 5) (v := ?vv122) rfl (by kernel_rfl) (by kernel_rfl) (by kernel_rfl) (fun _ _ _ h => h) (Or.inl ⟨by rfl, ?hy122⟩) hHeld ?rr122
    case hy122 => (intro w' hSw; obtain ⟨s0, s1⟩ := hSw; go_simp; try with_reducible rfl)
    try simp only [Act.put, List.setIfInBounds_toArray, List.set_cons_zero, List.set_cons_succ, List.getElem_toArray, List.getElem_cons_succ, List.getElem_cons_zero]
    refine wpAnyH_take (i := 6) (v := ?vv123) rfl (by kernel_rfl) (by kernel_rfl) (by kernel_rfl) (fun _ _ _ h => h) (Or.inl ⟨by rfl, ?hy123⟩) hHeld ?rr123
    case hy123 => (intro w' hSw; obtain ⟨s0, s1⟩ := hSw; go_simp; try with_reducible rfl)
    try simp only [Act.put, List.setIfInBounds_toArray, List.set_cons_zero, List.set_cons_succ, List.getElem_toArray, List.getElem_cons_succ, List.getElem_cons_zero]
    refine wpAnyH_done (by kernel_rfl) ?_ _
    clear hHeld
    clear a1 a2
    obtain ⟨w8, hww8⟩ : ∃ y, y = w7.drew := ⟨_, rfl⟩
    have HO8 := Lib.hid (HO7.out.drew)
    rw [← hww8] at HO8 ⊢
    clear hww8
    have t3 := HO8.out.ses.c3
    have f3 := HO8.out.ses.free 3
    go_wp2
    go_ret3
    refine (HO8.out.set 3 (.bool true) ⟨s.mine, { ({ newL v.mine with helloDue := true } : Link) with helloDue := true }⟩ rfl (ok_hello HO8.out.ses.ok true) rfl rfl rfl).post0 (fun k h => h.elim .inl (fun h => .inr (by rw [h]; have h1 := HL1.out; have h2 := HO4.out.size; omega))) ?_
    rw [onS_other HFv.out (by have := HL.out; omega) (by rw [← HN.out.2.1, ← HN.out.2.2.2.2]; exact H2.out), decide_eq_true (by have := HD.out; omega : s.l.yours < v.mine), freshL_new (by have := HD.out; omega)]
  have HD : Hid (¬ s.l.yours < v.mine) := Lib.hid (by rw [← HN.out.1, ← HN.out.2.2.2.1]; exact h2)
  by_cases h3 : ky = mm
  · have H2 : Hid (ky = mm) := Lib.hid h3
    have h3b : (ky != mm) = false := by simp [h3]
    have h3c : (ky == mm) = true := by simp [h3]
    clear h3
    rcases p6 with h4 | h4 | h4
    · subst h4
      go_enter Try.func10, Try.ntmps10
      go_wp2_with (first
        | rw [← HW1.out]
        | (go_at_call 19; refine Calls.mono (by with_reducible exact HC.out) ?_; rintro e w1 ⟨rfl, rfl⟩)
        | (go_at_call 20; refine Calls.mono (by with_reducible exact HFi.out) ?_; rintro e w2 ⟨rfl, hb⟩; have HB2 := Lib.hid hb; clear hb))
      have HO2 := Lib.hid (HO1.out.later HB2.out)
      clear e0 e1 e2 e3 e4 e5
      have a1 : w2.cell? ⟨w.heap.size, 1, none⟩ = some (.int .i64 km) := by rw [HN.out.1]; exact HO2.out.cells.2.1
      have a2 : w2.cell? ⟨p, 1, none⟩ = some (.int .i64 ym) := by rw [HN.out.2.2.2.1]; exact HO2.out.ses.c1
      refine wp_region_held_drew (S := (fun V => V.cell? ⟨w.heap.size, 1, none⟩ = some (.int .i64 km) ∧ V.cell? ⟨p, 1, none⟩ = some (.int .i64 ym))) (by kernel_rfl) ⟨a1, a2⟩ (fun hHeld => ?_)
      refine wpAnyH_take (i := 0) (v := ?vv124) rfl (by kernel_rfl) (by kernel_rfl) (by kernel_rfl) (fun _ _ _ h => h) (Or.inl ⟨by rfl, ?hy124⟩) hHeld ?rr124
      case hy124 => (intro w' hSw; obtain ⟨s0, s1⟩ := hSw; go_simp; try with_reducible rfl)
      try simp only [Act.put, List.setIfInBounds_toArray, List.set_cons_zero, List.set_cons_succ, List.getElem_toArray, List.getElem_cons_succ, List.getElem_cons_zero]
      refine wpAnyH_take (i := 1) (v := ?vv125) rfl (by kernel_rfl) (by kernel_rfl) (by kernel_rfl) (fun _ _ _ h => h) (Or.inl ⟨by rfl, ?hy125⟩) hHeld ?rr125
      case hy125 => (intro w' hSw; obtain ⟨s0, s1⟩ := hSw; go_simp; try with_reducible rfl)
      try simp only [Act.put, List.setIfInBounds_toArray, List.set_cons_zero, List.set_cons_succ, List.getElem_toArray, List.getElem_cons_succ, List.getElem_cons_zero]
      refine wpAnyH_take (i := 2) (v := ?vv126) rfl (by kernel_rfl) (by kernel_rfl) (by kernel_rfl) (fun _ _ _ h => h) (Or.inl ⟨by rfl, ?hy126⟩) hHeld ?rr126
      case hy126 => (intro w' hSw; obtain ⟨s0, s1⟩ := hSw; go_simp; try with_reducible rfl)
      try simp only [Act.put, List.setIfInBounds_toArray, List.set_cons_zero, List.set_cons_succ, List.getElem_toArray, List.getElem_cons_succ, List.getElem_cons_zero]
      refine wpAnyH_take (i := 3) (v := ?vv127) rfl (by kernel_rfl) (by kernel_rfl) (by kernel_rfl) (fun _ _ _ h => h) (Or.inl ⟨by rfl, ?hy127⟩) hHeld ?rr127
      case hy127 => (intro w' hSw; obtain ⟨s0, s1⟩ := hSw; go_simp; try with_reducible rfl)
      try simp only [Act.put, List.setIfInBounds_toArray, List.set_cons_zero, List.set_cons_succ, List.getElem_toArray, List.getElem_cons_succ, List.getElem_cons_zero]
      refine wpAnyH_take (i := 4) (v := ?vv128) rfl (by kernel_rfl) (by kernel_rfl) (by kernel_rfl) (fun _ _ _ h => h) (Or.inl ⟨by rfl, ?hy128⟩) hHeld ?rr128
      case hy128 => (intro w' hSw; obtain ⟨s0, s1⟩ := hSw; go_simp; try with_reducible rfl)
      try simp only [Act.put, List.setIfInBounds_toArray, List.set_cons_zero, List.set_cons_succ, List.getElem_toArray, List.getElem_cons_succ, List.getElem_cons_zero]
      refine wpAnyH_take (i := 5) (v := ?vv129) rfl (by kernel_rfl) (by kernel_rfl) (by kernel_rfl) (fun _ _ _ h => h) (Or.inl ⟨by rfl, ?hy129⟩) hHeld ?rr129
      case hy129 => (intro w' hSw; obtain ⟨s0, s1⟩ := hSw; go_simp; try with_reducible rfl)
      try simp only [Act.put, List.setIfInBounds_toArray, List.set_cons_zero, List.set_cons_succ, List.getElem_toArray, List.getElem_cons_succ, List.getElem_cons_zero]
      refine wpAnyH_take (i := 6) (v := ?vv130) rfl (by kernel_rfl) (by kernel_rfl) (by kernel_rfl) (fun _ _ _ h => h) (Or.inl ⟨by rfl, ?hy130⟩) hHeld ?rr130
      case hy130 => (intro w' hSw; obtain ⟨s0, s1⟩ := hSw; go_simp; try with_reducible rfl)
      try simp only [Act.put, List.setIfInBounds_toArray, List.set_cons_zero, List.set_cons_succ, List.getElem_toArray, List.getElem_cons_succ, List.getElem_cons_zero]
      refine wpAnyH_take (i := 7) (v := ?vv131) rfl (by kernel_rfl) (by kernel_rfl) (by kernel_rfl) (fun _ _ _ h => h) (Or.inl ⟨by rfl, ?hy131⟩) hHeld ?rr131
      case hy131 => (intro w' hSw; obtain ⟨s0, s1⟩ := hSw; go_simp; try with_reducible rfl)
      try simp only [Act.put, List.setIfInBounds_toArray, List.set_cons_zero, List.set_cons_succ, List.getElem_toArray, List.getElem_cons_succ, List.getElem_cons_zero]
      refine wpAnyH_take (i := 8) (v := ?vv132) rfl (by kernel_rfl) (by kernel_rfl) (by kernel_rfl) (fun _ _ _ h => h) (Or.inl ⟨by rfl, ?hy132⟩) hHeld ?rr132
      case hy132 => (intro w' hSw; obtain ⟨s0, s1⟩ := hSw; go_simp; try with_reducible rfl)
      try simp only [Act.put, List.setIfInBounds_toArray, List.set_cons_zero, List.set_cons_succ, List.getElem_toArray, List.getElem_cons_succ, List.getElem_cons_zero]
      refine wpAnyH_done (by kernel_rfl) ?_ _
      clear hHeld
      clear a1 a2
      obtain ⟨w3, hww3⟩ : ∃ y, y = w2.drew := ⟨_, rfl⟩
      have HO3 := Lib.hid (HO2.out.drew)
      rw [← hww3] at HO3 ⊢
      clear hww3
      go_wp2_with fail
      have a1 : w3.cell? ⟨w.heap.size, 1, none⟩ = some (.int .i64 km) := by rw [HN.out.1]; exact HO3.out.cells.2.1
      have a2 : w3.cell? ⟨p, 1, none⟩ = some (.int .i64 ym) := by rw [HN.out.2.2.2.1]; exact HO3.out.ses.c1
      refine wp_region_held_drew (S := (fun V => V.cell? ⟨w.heap.size, 1, none⟩ = some (.int .i64 km) ∧ V.cell? ⟨p, 1, none⟩ = some (.int .i64 ym))) (by kernel_rfl) ⟨a1, a2⟩ (fun hHeld => ?_)
      refine wpAnyH_take (i := 0) (v := ?vv133) rfl (by kernel_rfl) (by kernel_rfl) (by kernel_rfl) (fun _ _ _ h => h) (Or.inl ⟨by rfl, ?hy133⟩) hHeld ?rr133
      case hy133 => (intro w' hSw; obtain ⟨s0, s1⟩ := hSw; go_simp; try with_reducible rfl)
      try simp only [Act.put, List.setIfInBounds_toArray, List.set_cons_zero, List.set_cons_succ, List.getElem_toArray, List.getElem_cons_succ, List.getElem_cons_zero]
      refine wpAnyH_take (i := 1) (v := ?vv134) rfl (by kernel_rfl) (by kernel_rfl) (by kernel_rfl) (fun _ _ _ h => h) (Or.inl ⟨by rfl, ?hy134⟩) hHeld ?rr134
      case hy134 => (intro w' hSw; obtain ⟨s0, s1⟩ := hSw; go_simp; try with_reducible rfl)
      try simp only [Act.put, List.setIfInBounds_toArray, List.set_cons_zero, List.set_cons_succ, List.getElem_toArray, List.getElem_cons_succ, List.getElem_cons_zero]
      refine wpAnyH_take (i := 2) (v := ?vv135) rfl (by kernel_rfl) (by kernel_rfl) (by kernel_rfl) (fun _ _ _ h => h) (Or.inl ⟨by rfl, ?hy135⟩) hHeld ?rr135
      case hy135 => (intro w' hSw; obtain ⟨s0, s1⟩ := hSw; go_simp; try with_reducible rfl)
      try simp only [Act.put, List.setIfInBounds_toArray, List.set_cons_zero, List.set_cons_succ, List.getElem_toArray, List.getElem_cons_succ, List.getElem_cons_zero]
      refine wpAnyH_take (i := 3) (v := ?vv136) rfl (by kernel_rfl) (by kernel_rfl) (by kernel_rfl) (fun _ _ _ h => h) (Or.inl ⟨by rfl, ?hy136⟩) hHeld ?rr136
      case hy136 => (intro w' hSw; obtain ⟨s0, s1⟩ := hSw; go_simp; try with_reducible rfl)
      try simp only [Act.put, List.setIfInBounds_toArray, List.set_cons_zero, List.set_cons_succ, List.getElem_toArray, List.getElem_cons_succ, List.getElem_cons_zero]
      refine wpAnyH_take (i := 4) (v := ?vv137) rfl (by kernel_rfl) (by kernel_rfl) (by kernel_rfl) (fun _ _ _ h => h) (Or.inl ⟨by rfl, ?hy137⟩) hHeld ?rr137
      case hy137 => (intro w' hSw; obtain ⟨s0, s1⟩ := hSw; go_simp; try with_reducible rfl)
      try simp only [Act.put, List.setIfInBounds_toArray, List.set_cons_zero, List.set_cons_succ, List.getElem_toArray, List.getElem_cons_succ, List.getElem_cons_zero]
      refine wpAnyH_take (i := 5) (v := ?vv138) rfl (by kernel_rfl) (by kernel_rfl) (by kernel_rfl) (fun _ _ _ h => h) (Or.inl ⟨by rfl, ?hy138⟩) hHeld ?rr138
      case hy138 => (intro w' hSw; obtain ⟨s0, s1⟩ := hSw; go_simp; try with_reducible rfl)
      try simp only [Act.put, List.setIfInBounds_toArray, List.set_cons_zero, List.set_cons_succ, List.getElem_toArray, List.getElem_cons_succ, List.getElem_cons_zero]
      refine wpAnyH_take (i := 6) (v := ?vv139) rfl (by kernel_rfl) (by kernel_rfl) (by kernel_rfl) (fun _ _ _ h => h) (Or.inl ⟨by rfl, ?hy139⟩) hHeld ?rr139
      case hy139 => (intro w' hSw; obtain ⟨s0, s1⟩ := hSw; go_simp; try with_reducible rfl)
      try simp only [Act.put, List.setIfInBounds_toArray, List.set_cons_zero, List.set_cons_succ, List.getElem_toArray, List.getElem_cons_succ, List.getElem_cons_zero]
      refine wpAnyH_take (i := 7) (v := ?vv140) rfl (by kernel_rfl) (by kernel_rfl) (by kernel_rfl) (fun _ _ _ h => h) (Or.inl ⟨by rfl, ?hy140⟩) hHeld ?rr140
      case hy140 => (intro w' hSw; obtain ⟨s0, s1⟩ := hSw; go_simp; try with_reducible rfl)
      try simp only [Act.put, List.setIfInBounds_toArray, List.set_cons_zero, List.set_cons_succ, List.getElem_toArray, List.getElem_cons_succ, List.getElem_cons_zero]
      refine wpAnyH_done (by kernel_rfl) ?_ _
      clear hHeld
      clear a1 a2
      obtain ⟨w4, hww4⟩ : ∃ y, y = w3.drew := ⟨_, rfl⟩
      have HO4 := Lib.hid (HO3.out.drew)
      rw [← hww4] at HO4 ⊢
      clear hww4
      go_wp2_with fail
      have a1 : w4.cell? ⟨w.heap.size, 2, none⟩ = some (.int .i64 ky) := by rw [HN.out.2.1]; exact HO4.out.cells.2.2.1
      have a2 : w4.cell? ⟨p, 0, none⟩ = some (.int .i64 mm) := by rw [HN.out.2.2.2.2]; exact HO4.out.ses.c0
      refine wp_region_held_drew (S := (fun V => V.cell? ⟨w.heap.size, 2, none⟩ = some (.int .i64 ky) ∧ V.cell? ⟨p, 0, none⟩ = some (.int .i64 mm))) (by kernel_rfl) ⟨a1, a2⟩ (fun hHeld => ?_)
      refine wpAnyH_take (i := 0) (v := ?vv141) rfl (by kernel_rfl) (by kernel_rfl) (by kernel_rfl) (fun _ _ _ h => h) (Or.inl ⟨by rfl, ?hy141⟩) hHeld ?rr141
      case hy141 => (intro w' hSw; obtain ⟨s0, s1⟩ := hSw; go_simp; try with_reducible rfl)
      try simp only [Act.put, List.setIfInBounds_toArray, List.set_cons_zero, List.set_cons_succ, List.getElem_toArray, List.getElem_cons_succ, List.getElem_cons_zero]
      refine wpAnyH_take (i := 1) (v := ?vv142) rfl (by kernel_rfl) (by kernel_rfl) (by kernel_rfl) (fun _ _ _ h => h) (Or.inl ⟨by rfl, ?hy142⟩) hHeld ?rr142
      case hy142 => (intro w' hSw; obtain ⟨s0, s1⟩ := hSw; go_simp; try with_reducible rfl)
      try simp only [Act.put, List.setIfInBounds_toArray, List.set_cons_zero, List.set_cons_succ, List.getElem_toArray, List.getElem_cons_succ, List.getElem_cons_zero]
      refine wpAnyH_take (i := 2) (v := ?vv143) rfl (by kernel_rfl) (by kernel_rfl) (by kernel_rfl) (fun _ _ _ h => h) (Or.inl ⟨by rfl, ?hy143⟩) hHeld ?rr143
      case hy143 => (intro w' hSw; obtain ⟨s0, s1⟩ := hSw; go_simp; try with_reducible rfl)
      try simp only [Act.put, List.setIfInBounds_toArray, List.set_cons_zero, List.set_cons_succ, List.getElem_toArray, List.getElem_cons_succ, List.getElem_cons_zero]
      refine wpAnyH_take (i := 3) (v := ?vv144) rfl (by kernel_rfl) (by kernel_rfl) (by kernel_rfl) (fun _ _ _ h => h) (Or.inl ⟨by rfl, ?hy144⟩) hHeld ?rr144
      case hy144 => (intro w' hSw; obtain ⟨s0, s1⟩ := hSw; go_simp; try with_reducible rfl)
      try simp only [Act.put, List.setIfInBounds_toArray, List.set_cons_zero, List.set_cons_succ, List.getElem_toArray, List.getElem_cons_succ, List.getElem_cons_zero]
      refine wpAnyH_take (i := 4) (v := ?vv145) rfl (by kernel_rfl) (by kernel_rfl) (by kernel_rfl) (fun _ _ _ h => h) (Or.inl ⟨by rfl, ?hy145⟩) hHeld ?rr145
      case hy145 => (intro w' hSw; obtain ⟨s0, s1⟩ := hSw; go_simp; try with_reducible rfl)
      try simp only [Act.put, List.setIfInBounds_toArray, List.set_cons_zero, List.set_cons_succ, List.getElem_toArray, List.getElem_cons_succ, List.getElem_cons_zero]
      refine wpAnyH_take (i := 5) (v := ?vv146) rfl (by kernel_rfl) (by kernel_rfl) (by kernel_rfl) (fun _ _ _ h => h) (Or.inl ⟨by rfl, ?hy146⟩) hHeld ?rr146
      case hy146 => (intro w' hSw; obtain ⟨s0, s1⟩ := hSw; go_simp; try with_reducible rfl)
      try simp only [Act.put, List.setIfInBounds_toArray, List.set_cons_zero, List.set_cons_succ, List.getElem_toArray, List.getElem_cons_succ, List.getElem_cons_zero]
      refine wpAnyH_take (i := 6) (v := ?vv147) rfl (by kernel_rfl) (by kernel_rfl) (by kernel_rfl) (fun _ _ _ h => h) (Or.inl ⟨by rfl, ?hy147⟩) hHeld ?rr147
      case hy147 => (intro w' hSw; obtain ⟨s0, s1⟩ := hSw; go_simp; try with_reducible rfl)
      try simp only [Act.put, List.setIfInBounds_toArray, List.set_cons_zero, List.set_cons_succ, List.getElem_toArray, List.getElem_cons_succ, List.getElem_cons_zero]
      refine wpAnyH_done (by kernel_rfl) ?_ _
      clear hHeld
      clear a1 a2
      obtain ⟨w8, hww8⟩ : ∃ y, y = w4.drew := ⟨_, rfl⟩
      have HO8 := Lib.hid (HO4.out.drew)
      rw [← hww8] at HO8 ⊢
      clear hww8
      cases hA : s.l.ackDue with
      | false =>
        have t2 := HO8.out.ses.c2
        have f2 := HO8.out.ses.free 2
        have HO9 := Lib.hid (HO8.out.set 2 (.bool true) ⟨s.mine, { (s.l : Link) with knows := true }⟩ rfl (ok_knows HO8.out.ses.ok (by have := HPs.out.2.2.1.1; have := HD.out; have := HL.out; omega)) rfl rfl rfl)
        have a0 := HO8.out.cells.1
        rw [← HN.out.2.2.1] at a0
        have hgp : ¬ w.heap.size = p := fun e => HO8.out.nin.1 (e ▸ HO8.out.ses.inF.1)
        have t4 : w8.cell? ⟨p, 4, none⟩ = some (.bool false) := by rw [← hA]; exact HO8.out.ses.c4
        have f4 := HO8.out.ses.free 4
        have HA := Lib.hid hA
        clear hA
        go_wp2
        go_ret3
        refine (HO9.out.set 4 (.bool true) ⟨s.mine, { (s.l : Link) with knows := true, ackDue := true }⟩ rfl (ok_ack HO9.out.ses.ok true) rfl rfl rfl).post0 (fun k h => .inl h) ?_
        rw [onS_hello HFv.out (by have := HL.out; omega) (by rw [← HN.out.2.1, ← HN.out.2.2.2.2]; exact H2.out) (by rw [← HN.out.2.2.1]), decide_eq_false (by have := HD.out; omega : ¬ s.l.yours < v.mine), freshL_old (by have := HD.out; omega)]
        simp [HA.out]
      | true =>
        have t2 := HO8.out.ses.c2
        have f2 := HO8.out.ses.free 2
        have HO9 := Lib.hid (HO8.out.set 2 (.bool true) ⟨s.mine, { (s.l : Link) with knows := true }⟩ rfl (ok_knows HO8.out.ses.ok (by have := HPs.out.2.2.1.1; have := HD.out; have := HL.out; omega)) rfl rfl rfl)
        have a0 := HO8.out.cells.1
        rw [← HN.out.2.2.1] at a0
        have hgp : ¬ w.heap.size = p := fun e => HO8.out.nin.1 (e ▸ HO8.out.ses.inF.1)
        have t4 : w8.cell? ⟨p, 4, none⟩ = some (.bool true) := by rw [← hA]; exact HO8.out.ses.c4
        have f4 := HO8.out.ses.free 4
        have HA := Lib.hid hA
        clear hA
        go_wp2
        go_ret3
        refine (HO9.out.set 4 (.bool true) ⟨s.mine, { (s.l : Link) with knows := true, ackDue := true }⟩ rfl (ok_ack HO9.out.ses.ok true) rfl rfl rfl).post0 (fun k h => .inl h) ?_
        rw [onS_hello HFv.out (by have := HL.out; omega) (by rw [← HN.out.2.1, ← HN.out.2.2.2.2]; exact H2.out) (by rw [← HN.out.2.2.1]), decide_eq_false (by have := HD.out; omega : ¬ s.l.yours < v.mine), freshL_old (by have := HD.out; omega)]
        simp [HA.out]
    · subst h4
      go_enter Try.func10, Try.ntmps10
      go_wp2_with (first
        | rw [← HW1.out]
        | (go_at_call 19; refine Calls.mono (by with_reducible exact HC.out) ?_; rintro e w1 ⟨rfl, rfl⟩)
        | (go_at_call 20; refine Calls.mono (by with_reducible exact HFi.out) ?_; rintro e w2 ⟨rfl, hb⟩; have HB2 := Lib.hid hb; clear hb))
      have HO2 := Lib.hid (HO1.out.later HB2.out)
      clear e0 e1 e2 e3 e4 e5
      have a1 : w2.cell? ⟨w.heap.size, 1, none⟩ = some (.int .i64 km) := by rw [HN.out.1]; exact HO2.out.cells.2.1
      have a2 : w2.cell? ⟨p, 1, none⟩ = some (.int .i64 ym) := by rw [HN.out.2.2.2.1]; exact HO2.out.ses.c1
      refine wp_region_held_drew (S := (fun V => V.cell? ⟨w.heap.size, 1, none⟩ = some (.int .i64 km) ∧ V.cell? ⟨p, 1, none⟩ = some (.int .i64 ym))) (by kernel_rfl) ⟨a1, a2⟩ (fun hHeld => ?_)
      refine wpAnyH_take (i := 0) (v := ?vv148) rfl (by kernel_rfl) (by kernel_rfl) (by kernel_rfl) (fun _ _ _ h => h) (Or.inl ⟨by rfl, ?hy148⟩) hHeld ?rr148
      case hy148 => (intro w' hSw; obtain ⟨s0, s1⟩ := hSw; go_simp; try with_reducible rfl)
      try simp only [Act.put, List.setIfInBounds_toArray, List.set_cons_zero, List.set_cons_succ, List.getElem_toArray, List.getElem_cons_succ, List.getElem_cons_zero]
      refine wpAnyH_take (i := 1) (v := ?vv149) rfl (by kernel_rfl) (by kernel_rfl) (by kernel_rfl) (fun _ _ _ h => h) (Or.inl ⟨by rfl, ?hy149⟩) hHeld ?rr149
      case hy149 => (intro w' hSw; obtain ⟨s0, s1⟩ := hSw; go_simp; try with_reducible rfl)
      try simp only [Act.put, List.setIfInBounds_toArray, List.set_cons_zero, List.set_cons_succ, List.getElem_toArray, List.getElem_cons_succ, List.getElem_cons_zero]
      refine wpAnyH_take (i := 2) (v := ?vv150) rfl (by kernel_rfl) (by kernel_rfl) (by kernel_rfl) (fun _ _ _ h => h) (Or.inl ⟨by rfl, ?hy150⟩) hHeld ?rr150
      case hy150 => (intro w' hSw; obtain ⟨s0, s1⟩ := hSw; go_simp; try with_reducible rfl)
      try simp only [Act.put, List.setIfInBounds_toArray, List.set_cons_zero, List.set_cons_succ, List.getElem_toArray, List.getElem_cons_succ, List.getElem_cons_zero]
      refine wpAnyH_take (i := 3) (v := ?vv151) rfl (by kernel_rfl) (by kernel_rfl) (by kernel_rfl) (fun _ _ _ h => h) (Or.inl ⟨by rfl, ?hy151⟩) hHeld ?rr151
      case hy151 => (intro w' hSw; obtain ⟨s0, s1⟩ := hSw; go_simp; try with_reducible rfl)
      try simp only [Act.put, List.setIfInBounds_toArray, List.set_cons_zero, List.set_cons_succ, List.getElem_toArray, List.getElem_cons_succ, List.getElem_cons_zero]
      refine wpAnyH_take (i := 4) (v := ?vv152) rfl (by kernel_rfl) (by kernel_rfl) (by kernel_rfl) (fun _ _ _ h => h) (Or.inl ⟨by rfl, ?hy152⟩) hHeld ?rr152
      case hy152 => (intro w' hSw; obtain ⟨s0, s1⟩ := hSw; go_simp; try with_reducible rfl)
      try simp only [Act.put, List.setIfInBounds_toArray, List.set_cons_zero, List.set_cons_succ, List.getElem_toArray, List.getElem_cons_succ, List.getElem_cons_zero]
      refine wpAnyH_take (i := 5) (v := ?vv153) rfl (by kernel_rfl) (by kernel_rfl) (by kernel_rfl) (fun _ _ _ h => h) (Or.inl ⟨by rfl, ?hy153⟩) hHeld ?rr153
      case hy153 => (intro w' hSw; obtain ⟨s0, s1⟩ := hSw; go_simp; try with_reducible rfl)
      try simp only [Act.put, List.setIfInBounds_toArray, List.set_cons_zero, List.set_cons_succ, List.getElem_toArray, List.getElem_cons_succ, List.getElem_cons_zero]
      refine wpAnyH_take (i := 6) (v := ?vv154) rfl (by kernel_rfl) (by kernel_rfl) (by kernel_rfl) (fun _ _ _ h => h) (Or.inl ⟨by rfl, ?hy154⟩) hHeld ?rr154
      case hy154 => (intro w' hSw; obtain ⟨s0, s1⟩ := hSw; go_simp; try with_reducible rfl)
      try simp only [Act.put, List.setIfInBounds_toArray, List.set_cons_zero, List.set_cons_succ, List.getElem_toArray, List.getElem_cons_succ, List.getElem_cons_zero]
      refine wpAnyH_take (i := 7) (v := ?vv155) rfl (by kernel_rfl) (by kernel_rfl) (by kernel_rfl) (fun _ _ _ h => h) (Or.inl ⟨by rfl, ?hy155⟩) hHeld ?rr155
      case hy155 => (intro w' hSw; obtain ⟨s0, s1⟩ := hSw; go_simp; try with_reducible rfl)
      try simp only [Act.put, List.setIfInBounds_toArray, List.set_cons_zero, List.set_cons_succ, List.getElem_toArray, List.getElem_cons_succ, List.getElem_cons_zero]
      refine wpAnyH_take (i := 8) (v := ?vv156) rfl (by kernel_rfl) (by kernel_rfl) (by kernel_rfl) (fun _ _ _ h => h) (Or.inl ⟨by rfl, ?hy156⟩) hHeld ?rr156
      case hy156 => (intro w' hSw; obtain ⟨s0, s1⟩ := hSw; go_simp; try with_reducible rfl)
      try simp only [Act.put, List.setIfInBounds_toArray, List.set_cons_zero, List.set_cons_succ, List.getElem_toArray, List.getElem_cons_succ, List.getElem_cons_zero]
      refine wpAnyH_done (by kernel_rfl) ?_ _
      clear hHeld
      clear a1 a2
      obtain ⟨w3, hww3⟩ : ∃ y, y = w2.drew := ⟨_, rfl⟩
      have HO3 := Lib.hid (HO2.out.drew)
      rw [← hww3] at HO3 ⊢
      clear hww3
      go_wp2_with fail
      have a1 : w3.cell? ⟨w.heap.size, 1, none⟩ = some (.int .i64 km) := by rw [HN.out.1]; exact HO3.out.cells.2.1
      have a2 : w3.cell? ⟨p, 1, none⟩ = some (.int .i64 ym) := by rw [HN.out.2.2.2.1]; exact HO3.out.ses.c1
      refine wp_region_held_drew (S := (fun V => V.cell? ⟨w.heap.size, 1, none⟩ = some (.int .i64 km) ∧ V.cell? ⟨p, 1, none⟩ = some (.int .i64 ym))) (by kernel_rfl) ⟨a1, a2⟩ (fun hHeld => ?_)
      refine wpAnyH_take (i := 0) (v := ?vv157) rfl (by kernel_rfl) (by kernel_rfl) (by kernel_rfl) (fun _ _ _ h => h) (Or.inl ⟨by rfl, ?hy157⟩) hHeld ?rr157
      case hy157 => (intro w' hSw; obtain ⟨s0, s1⟩ := hSw; go_simp; try with_reducible rfl)
      try simp only [Act.put, List.setIfInBounds_toArray, List.set_cons_zero, List.set_cons_succ, List.getElem_toArray, List.getElem_cons_succ, List.getElem_cons_zero]
      refine wpAnyH_take (i := 1) (v := ?vv158) rfl (by kernel_rfl) (by kernel_rfl) (by kernel_rfl) (fun _ _ _ h => h) (Or.inl ⟨by rfl, ?hy158⟩) hHeld ?rr158
      case hy158 => (intro w' hSw; obtain ⟨s0, s1⟩ := hSw; go_simp; try with_reducible rfl)
      try simp only [Act.put, List.setIfInBounds_toArray, List.set_cons_zero, List.set_cons_succ, List.getElem_toArray, List.getElem_cons_succ, List.getElem_cons_zero]
      refine wpAnyH_take (i := 2) (v := ?vv159) rfl (by kernel_rfl) (by kernel_rfl) (by kernel_rfl) (fun _ _ _ h => h) (Or.inl ⟨by rfl, ?hy159⟩) hHeld ?rr159
      case hy159 => (intro w' hSw; obtain ⟨s0, s1⟩ := hSw; go_simp; try with_reducible rfl)
      try simp only [Act.put, List.setIfInBounds_toArray, List.set_cons_zero, List.set_cons_succ, List.getElem_toArray, List.getElem_cons_succ, List.getElem_cons_zero]
      refine wpAnyH_take (i := 3) (v := ?vv160) rfl (by kernel_rfl) (by kernel_rfl) (by kernel_rfl) (fun _ _ _ h => h) (Or.inl ⟨by rfl, ?hy160⟩) hHeld ?rr160
      case hy160 => (intro w' hSw; obtain ⟨s0, s1⟩ := hSw; go_simp; try with_reducible rfl)
      try simp only [Act.put, List.setIfInBounds_toArray, List.set_cons_zero, List.set_cons_succ, List.getElem_toArray, List.getElem_cons_succ, List.getElem_cons_zero]
      refine wpAnyH_take (i := 4) (v := ?vv161) rfl (by kernel_rfl) (by kernel_rfl) (by kernel_rfl) (fun _ _ _ h => h) (Or.inl ⟨by rfl, ?hy161⟩) hHeld ?rr161
      case hy161 => (intro w' hSw; obtain ⟨s0, s1⟩ := hSw; go_simp; try with_reducible rfl)
      try simp only [Act.put, List.setIfInBounds_toArray, List.set_cons_zero, List.set_cons_succ, List.getElem_toArray, List.getElem_cons_succ, List.getElem_cons_zero]
      refine wpAnyH_take (i := 5) (v := ?vv162) rfl (by kernel_rfl) (by kernel_rfl) (by kernel_rfl) (fun _ _ _ h => h) (Or.inl ⟨by rfl, ?hy162⟩) hHeld ?rr162
      case hy162 => (intro w' hSw; obtain ⟨s0, s1⟩ := hSw; go_simp; try with_reducible rfl)
      try simp only [Act.put, List.setIfInBounds_toArray, List.set_cons_zero, List.set_cons_succ, List.getElem_toArray, List.getElem_cons_succ, List.getElem_cons_zero]
      refine wpAnyH_take (i := 6) (v := ?vv163) rfl (by kernel_rfl) (by kernel_rfl) (by kernel_rfl) (fun _ _ _ h => h) (Or.inl ⟨by rfl, ?hy163⟩) hHeld ?rr163
      case hy163 => (intro w' hSw; obtain ⟨s0, s1⟩ := hSw; go_simp; try with_reducible rfl)
      try simp only [Act.put, List.setIfInBounds_toArray, List.set_cons_zero, List.set_cons_succ, List.getElem_toArray, List.getElem_cons_succ, List.getElem_cons_zero]
      refine wpAnyH_take (i := 7) (v := ?vv164) rfl (by kernel_rfl) (by kernel_rfl) (by kernel_rfl) (fun _ _ _ h => h) (Or.inl ⟨by rfl, ?hy164⟩) hHeld ?rr164
      case hy164 => (intro w' hSw; obtain ⟨s0, s1⟩ := hSw; go_simp; try with_reducible rfl)
      try simp only [Act.put, List.setIfInBounds_toArray, List.set_cons_zero, List.set_cons_succ, List.getElem_toArray, List.getElem_cons_succ, List.getElem_cons_zero]
      refine wpAnyH_done (by kernel_rfl) ?_ _
      clear hHeld
      clear a1 a2
      obtain ⟨w4, hww4⟩ : ∃ y, y = w3.drew := ⟨_, rfl⟩
      have HO4 := Lib.hid (HO3.out.drew)
      rw [← hww4] at HO4 ⊢
      clear hww4
      go_wp2_with fail
      have a1 : w4.cell? ⟨w.heap.size, 2, none⟩ = some (.int .i64 ky) := by rw [HN.out.2.1]; exact HO4.out.cells.2.2.1
      have a2 : w4.cell? ⟨p, 0, none⟩ = some (.int .i64 mm) := by rw [HN.out.2.2.2.2]; exact HO4.out.ses.c0
      refine wp_region_held_drew (S := (fun V => V.cell? ⟨w.heap.size, 2, none⟩ = some (.int .i64 ky) ∧ V.cell? ⟨p, 0, none⟩ = some (.int .i64 mm))) (by kernel_rfl) ⟨a1, a2⟩ (fun hHeld => ?_)
      refine wpAnyH_take (i := 0) (v := ?vv165) rfl (by kernel_rfl) (by kernel_rfl) (by kernel_rfl) (fun _ _ _ h => h) (Or.inl ⟨by rfl, ?hy165⟩) hHeld ?rr165
      case hy165 => (intro w' hSw; obtain ⟨s0, s1⟩ := hSw; go_simp; try with_reducible rfl)
      try simp only [Act.put, List.setIfInBounds_toArray, List.set_cons_zero, List.set_cons_succ, List.getElem_toArray, List.getElem_cons_succ, List.getElem_cons_zero]
      refine wpAnyH_take (i := 1) (v := ?vv166) rfl (by kernel_rfl) (by kernel_rfl) (by kernel_rfl) (fun _ _ _ h => h) (Or.inl ⟨by rfl, ?hy166⟩) hHeld ?rr166
      case hy166 => (intro w' hSw; obtain ⟨s0, s1⟩ := hSw; go_simp; try with_reducible rfl)
      try simp only [Act.put, List.setIfInBounds_toArray, List.set_cons_zero, List.set_cons_succ, List.getElem_toArray, List.getElem_cons_succ, List.getElem_cons_zero]
      refine wpAnyH_take (i := 2) (v := ?vv167) rfl (by kernel_rfl) (by kernel_rfl) (by kernel_rfl) (fun _ _ _ h => h) (Or.inl ⟨by rfl, ?hy167⟩) hHeld ?rr167
      case hy167 => (intro w' hSw; obtain ⟨s0, s1⟩ := hSw; go_simp; try with_reducible rfl)
      try simp only [Act.put, List.setIfInBounds_toArray, List.set_cons_zero, List.set_cons_succ, List.getElem_toArray, List.getElem_cons_succ, List.getElem_cons_zero]
      refine wpAnyH_take (i := 3) (v := ?vv168) rfl (by kernel_rfl) (by kernel_rfl) (by kernel_rfl) (fun _ _ _ h => h) (Or.inl ⟨by rfl, ?hy168⟩) hHeld ?rr168
      case hy168 => (intro w' hSw; obtain ⟨s0, s1⟩ := hSw; go_simp; try with_reducible rfl)
      try simp only [Act.put, List.setIfInBounds_toArray, List.set_cons_zero, List.set_cons_succ, List.getElem_toArray, List.getElem_cons_succ, List.getElem_cons_zero]
      refine wpAnyH_take (i := 4) (v := ?vv169) rfl (by kernel_rfl) (by kernel_rfl) (by kernel_rfl) (fun _ _ _ h => h) (Or.inl ⟨by rfl, ?hy169⟩) hHeld ?rr169
      case hy169 => (intro w' hSw; obtain ⟨s0, s1⟩ := hSw; go_simp; try with_reducible rfl)
      try simp only [Act.put, List.setIfInBounds_toArray, List.set_cons_zero, List.set_cons_succ, List.getElem_toArray, List.getElem_cons_succ, List.getElem_cons_zero]
      refine wpAnyH_take (i := 5) (v := ?vv170) rfl (by kernel_rfl) (by kernel_rfl) (by kernel_rfl) (fun _ _ _ h => h) (Or.inl ⟨by rfl, ?hy170⟩) hHeld ?rr170
      case hy170 => (intro w' hSw; obtain ⟨s0, s1⟩ := hSw; go_simp; try with_reducible rfl)
      try simp only [Act.put, List.setIfInBounds_toArray, List.set_cons_zero, List.set_cons_succ, List.getElem_toArray, List.getElem_cons_succ, List.getElem_cons_zero]
      refine wpAnyH_take (i := 6) (v := ?vv171) rfl (by kernel_rfl) (by kernel_rfl) (by kernel_rfl) (fun _ _ _ h => h) (Or.inl ⟨by rfl, ?hy171⟩) hHeld ?rr171
      case hy171 => (intro w' hSw; obtain ⟨s0, s1⟩ := hSw; go_simp; try with_reducible rfl)
      try simp only [Act.put, List.setIfInBounds_toArray, List.set_cons_zero, List.set_cons_succ, List.getElem_toArray, List.getElem_cons_succ, List.getElem_cons_zero]
      refine wpAnyH_done (by kernel_rfl) ?_ _
      clear hHeld
      clear a1 a2
      obtain ⟨w8, hww8⟩ : ∃ y, y = w4.drew := ⟨_, rfl⟩
      have HO8 := Lib.hid (HO4.out.drew)
      rw [← hww8] at HO8 ⊢
      clear hww8
      have t2 := HO8.out.ses.c2
      have f2 := HO8.out.ses.free 2
      have HO9 := Lib.hid (HO8.out.set 2 (.bool true) ⟨s.mine, { (s.l : Link) with knows := true }⟩ rfl (ok_knows HO8.out.ses.ok (by have := HPs.out.2.2.1.1; have := HD.out; have := HL.out; omega)) rfl rfl rfl)
      have a0 := HO8.out.cells.1
      rw [← HN.out.2.2.1] at a0
      have hgp : ¬ w.heap.size = p := fun e => HO8.out.nin.1 (e ▸ HO8.out.ses.inF.1)
      go_wp2_with fail
      obtain ⟨w9, hww9⟩ : ∃ y, y = w8.setCell ⟨p, 2, none⟩ (.bool true) := ⟨_, rfl⟩
      have HO10 := Lib.hid (HO9.out)
      rw [← hww9] at HO10 ⊢
      clear hww9
      clear a0 t2 f2
      have a4 := HO10.out.cells.2.2.2.2.1
      refine wp_region_held_drew (S := (fun V => V.cell? ⟨w.heap.size, 4, none⟩ = some (.int .i64 v.ack))) (by kernel_rfl) a4 (fun hHeld => ?_)
      refine wpAnyH_take (i := 0) (v := ?vv172) rfl (by kernel_rfl) (by kernel_rfl) (by kernel_rfl) (fun _ _ _ h => h) (Or.inl ⟨by rfl, ?hy172⟩) hHeld ?rr172
      case hy172 => (intro w' hSw; have s0 := hSw; go_simp; try with_reducible rfl)
      try simp only [Act.put, List.setIfInBounds_toArray, List.set_cons_zero, List.set_cons_succ, List.getElem_toArray, List.getElem_cons_succ, List.getElem_cons_zero]
      refine wpAnyH_take (i := 1) (v := ?vv173) rfl (by kernel_rfl) (by kernel_rfl) (by kernel_rfl) (fun _ _ _ h => h) (Or.inl ⟨by rfl, ?hy173⟩) hHeld ?rr173
      case hy173 => (intro w' hSw; have s0 := hSw; go_simp; try with_reducible rfl)
      try simp only [Act.put, List.setIfInBounds_toArray, List.set_cons_zero, List.set_cons_succ, List.getElem_toArray, List.getElem_cons_succ, List.getElem_cons_zero]
      refine wpAnyH_take (i := 2) (v := ?vv174) rfl (by kernel_rfl) (by kernel_rfl) (by kernel_rfl) (fun _ _ _ h => h) (Or.inl ⟨by rfl, ?hy174⟩) hHeld ?rr174
      case hy174 => (intro w' hSw; have s0 := hSw; go_simp; try with_reducible rfl)
      try simp only [Act.put, List.setIfInBounds_toArray, List.set_cons_zero, List.set_cons_succ, List.getElem_toArray, List.getElem_cons_succ, List.getElem_cons_zero]
      refine wpAnyH_take (i := 3) (v := ?vv175) rfl (by kernel_rfl) (by kernel_rfl) (by kernel_rfl) (fun _ _ _ h => h) (Or.inl ⟨by rfl, ?hy175⟩) hHeld ?rr175
      case hy175 => (intro w' hSw; have s0 := hSw; go_simp; try with_reducible rfl)
      try simp only [Act.put, List.setIfInBounds_toArray, List.set_cons_zero, List.set_cons_succ, List.getElem_toArray, List.getElem_cons_succ, List.getElem_cons_zero]
      refine wpAnyH_take (i := 4) (v := ?vv176) rfl (by kernel_rfl) (by kernel_rfl) (by kernel_rfl) (fun _ _ _ h => h) (Or.inl ⟨by rfl, ?hy176⟩) hHeld ?rr176
      case hy176 => (intro w' hSw; have s0 := hSw; go_simp; try with_reducible rfl)
      try simp only [Act.put, List.setIfInBounds_toArray, List.set_cons_zero, List.set_cons_succ, List.getElem_toArray, List.getElem_cons_succ, List.getElem_cons_zero]
      refine wpAnyH_ready (rs := [5]) (by kernel_rfl) (by simp) ?_
      refine AllReadyH.cons rfl (fun K hK => ?_) AllReadyH.nil
      try rw [if_pos (by rfl)]
      go_simp
      go_at_call 22
      refine Calls.mono (letGo_any HO10.out.drew.ses v.ack HPs.out.2.1) ?_
      rintro e w11 ⟨rfl, hse, hmv, hku⟩
      obtain ⟨A11, c11, vs11, bm11, D11, hx11⟩ := hse
      have HO11 := Lib.hid (HO10.out.drew.call hx11 hmv hku)
      have a4b := HO11.out.cells.2.2.2.2.1
      clear hmv hku hx11
      go_wp2_with fail
      refine hK.out _ _ a4b (fun hHeld2 => ?_)
      clear hK K hHeld
      have hHeld := hHeld2
      clear hHeld2
      try simp only [Act.put, List.setIfInBounds_toArray, List.set_cons_zero, List.set_cons_succ, List.getElem_toArray, List.getElem_cons_succ, List.getElem_cons_zero]
      refine wpAnyH_done (by kernel_rfl) ?_ _
      clear hHeld
      clear a4 a4b
      go_wp2_with fail
      have b3 := HO11.out.cells.2.2.2.1
      have b5 := HO11.out.cells.2.2.2.2.2
      refine wp_region_held_drew (S := (fun V => V.cell? ⟨w.heap.size, 3, none⟩ = some (.int .i64 v.seq) ∧ V.cell? ⟨w.heap.size, 5, none⟩ = some (.slice A0 v.body.length c0))) (by kernel_rfl) ⟨b3, b5⟩ (fun hHeld => ?_)
      refine wpAnyH_take (i := 0) (v := ?vv177) rfl (by kernel_rfl) (by kernel_rfl) (by kernel_rfl) (fun _ _ _ h => h) (Or.inl ⟨by rfl, ?hy177⟩) hHeld ?rr177
      case hy177 => (intro w' hSw; obtain ⟨s0, s1⟩ := hSw; go_simp; try with_reducible rfl)
      try simp only [Act.put, List.setIfInBounds_toArray, List.set_cons_zero, List.set_cons_succ, List.getElem_toArray, List.getElem_cons_succ, List.getElem_cons_zero]
      refine wpAnyH_take (i := 1) (v := ?vv178) rfl (by kernel_rfl) (by kernel_rfl) (by kernel_rfl) (fun _ _ _ h => h) (Or.inl ⟨by rfl, ?hy178⟩) hHeld ?rr178
      case hy178 => (intro w' hSw; obtain ⟨s0, s1⟩ := hSw; go_simp; try with_reducible rfl)
      try simp only [Act.put, List.setIfInBounds_toArray, List.set_cons_zero, List.set_cons_succ, List.getElem_toArray, List.getElem_cons_succ, List.getElem_cons_zero]
      refine wpAnyH_take (i := 2) (v := ?vv179) rfl (by kernel_rfl) (by kernel_rfl) (by kernel_rfl) (fun _ _ _ h => h) (Or.inl ⟨by rfl, ?hy179⟩) hHeld ?rr179
      case hy179 => (intro w' hSw; obtain ⟨s0, s1⟩ := hSw; go_simp; try with_reducible rfl)
      try simp only [Act.put, List.setIfInBounds_toArray, List.set_cons_zero, List.set_cons_succ, List.getElem_toArray, List.getElem_cons_succ, List.getElem_cons_zero]
      refine wpAnyH_take (i := 3) (v := ?vv180) rfl (by kernel_rfl) (by kernel_rfl) (by kernel_rfl) (fun _ _ _ h => h) (Or.inl ⟨by rfl, ?hy180⟩) hHeld ?rr180
      case hy180 => (intro w' hSw; obtain ⟨s0, s1⟩ := hSw; go_simp; try with_reducible rfl)
      try simp only [Act.put, List.setIfInBounds_toArray, List.set_cons_zero, List.set_cons_succ, List.getElem_toArray, List.getElem_cons_succ, List.getElem_cons_zero]
      refine wpAnyH_take (i := 4) (v := ?vv181) rfl (by kernel_rfl) (by kernel_rfl) (by kernel_rfl) (fun _ _ _ h => h) (Or.inl ⟨by rfl, ?hy181⟩) hHeld ?rr181
      case hy181 => (intro w' hSw; obtain ⟨s0, s1⟩ := hSw; go_simp; try with_reducible rfl)
      try simp only [Act.put, List.setIfInBounds_toArray, List.set_cons_zero, List.set_cons_succ, List.getElem_toArray, List.getElem_cons_succ, List.getElem_cons_zero]
      refine wpAnyH_take (i := 5) (v := ?vv182) rfl (by kernel_rfl) (by kernel_rfl) (by kernel_rfl) (fun _ _ _ h => h) (Or.inl ⟨by rfl, ?hy182⟩) hHeld ?rr182
      case hy182 => (intro w' hSw; obtain ⟨s0, s1⟩ := hSw; go_simp; try with_reducible rfl)
      try simp only [Act.put, List.setIfInBounds_toArray, List.set_cons_zero, List.set_cons_succ, List.getElem_toArray, List.getElem_cons_succ, List.getElem_cons_zero]
      refine wpAnyH_take (i := 6) (v := ?vv183) rfl (by kernel_rfl) (by kernel_rfl) (by kernel_rfl) (fun _ _ _ h => h) (Or.inl ⟨by rfl, ?hy183⟩) hHeld ?rr183
      case hy183 => (intro w' hSw; obtain ⟨s0, s1⟩ := hSw; go_simp; try with_reducible rfl)
      try simp only [Act.put, List.setIfInBounds_toArray, List.set_cons_zero, List.set_cons_succ, List.getElem_toArray, List.getElem_cons_succ, List.getElem_cons_zero]
      have HPu : Hid ((letGo { (s.l : Link) with knows := true } v.ack).puts < 1000000) := Lib.hid (by rw [(letGo_l _ _).2.2.2.1]; exact HP.out)
      refine wpAnyH_ready (rs := [7]) (by kernel_rfl) (by simp) ?_
      refine AllReadyH.cons rfl (fun K hK => ?_) AllReadyH.nil
      try rw [if_pos (by rfl)]
      go_simp
      go_at_call 23
      refine Calls.mono (take_any HO11.out.drew.ses HO11.out.drew.nin.2 v.seq v.body A0 c0 HO11.out.drew.byt.byt HPs.out.2.2.2 HPs.out.1 HPu.out) ?_
      rintro e w12 ⟨Ab, cb, bs, rfl, hbs, hrow, hbu, hse, hmv, hku⟩
      have HR := Lib.hid (And.intro hbs (And.intro (own_zero hrow) hbu))
      obtain ⟨A12, c12, vs12, bm12, D12, hx12⟩ := hse
      have HO12 := Lib.hid (HO11.out.drew.call hx12 hmv hku)
      have q3 := HO12.out.cells.2.2.2.1
      have q5 := HO12.out.cells.2.2.2.2.2
      clear hbs hrow hbu hmv hku hx12
      go_wp2_with fail
      refine hK.out _ _ ⟨q3, q5⟩ (fun hHeld2 => ?_)
      clear hK K hHeld
      have hHeld := hHeld2
      clear hHeld2
      try simp only [Act.put, List.setIfInBounds_toArray, List.set_cons_zero, List.set_cons_succ, List.getElem_toArray, List.getElem_cons_succ, List.getElem_cons_zero]
      refine wpAnyH_take (i := 8) (v := ?vv184) rfl (by kernel_rfl) (by kernel_rfl) (by kernel_rfl) (fun _ _ _ h => h) (Or.inl ⟨by rfl, ?hy184⟩) hHeld ?rr184
      case hy184 => (intro w' hSw; obtain ⟨s0, s1⟩ := hSw; go_simp; try with_reducible rfl)
      try simp only [Act.put, List.setIfInBounds_toArray, List.set_cons_zero, List.set_cons_succ, List.getElem_toArray, List.getElem_cons_succ, List.getElem_cons_zero]
      refine wpAnyH_done (by kernel_rfl) ?_ _
      clear hHeld
      clear b3 b5 q3 q5
      go_wp2
      go_ret3
      have hE := onS_data (s := s) HFv.out (by have := HL.out; omega) (by rw [← HN.out.2.1, ← HN.out.2.2.2.2]; exact H2.out) (by rw [← HN.out.2.2.1])
      rw [decide_eq_false (by have := HD.out; omega : ¬ s.l.yours < v.mine), freshL_old (by have := HD.out; omega)] at hE
      refine ⟨Ab, cb, bs, ?_, ?_, ?_, HR.out.2.2, ?_, ?_, HO12.out.ku⟩
      · rw [hE]; rfl
      · rw [hE]; exact HR.out.1
      · rw [hE]; exact HR.out.2.1
      · rw [hE]; exact (HO12.out.ses.wide (fun k h => .inl h)).se
      · have hG : ∀ k, F k → F k ∨ w.heap.size ≤ k := (fun k h => .inl h)
        exact HO12.out.moved.weaken (fun k hk e => (hG k e.1).elim id (fun h => absurd hk (Nat.not_lt.2 h)))
    · subst h4
      go_enter Try.func10, Try.ntmps10
      go_wp2_with (first
        | rw [← HW1.out]
        | (go_at_call 19; refine Calls.mono (by with_reducible exact HC.out) ?_; rintro e w1 ⟨rfl, rfl⟩)
        | (go_at_call 20; refine Calls.mono (by with_reducible exact HFi.out) ?_; rintro e w2 ⟨rfl, hb⟩; have HB2 := Lib.hid hb; clear hb))
      have HO2 := Lib.hid (HO1.out.later HB2.out)
      clear e0 e1 e2 e3 e4 e5
      have a1 : w2.cell? ⟨w.heap.size, 1, none⟩ = some (.int .i64 km) := by rw [HN.out.1]; exact HO2.out.cells.2.1
      have a2 : w2.cell? ⟨p, 1, none⟩ = some (.int .i64 ym) := by rw [HN.out.2.2.2.1]; exact HO2.out.ses.c1
      refine wp_region_held_drew (S := (fun V => V.cell? ⟨w.heap.size, 1, none⟩ = some (.int .i64 km) ∧ V.cell? ⟨p, 1, none⟩ = some (.int .i64 ym))) (by kernel_rfl) ⟨a1, a2⟩ (fun hHeld => ?_)
      refine wpAnyH_take (i := 0) (v := ?vv185) rfl (by kernel_rfl) (by kernel_rfl) (by kernel_rfl) (fun _ _ _ h => h) (Or.inl ⟨by rfl, ?hy185⟩) hHeld ?rr185
      case hy185 => (intro w' hSw; obtain ⟨s0, s1⟩ := hSw; go_simp; try with_reducible rfl)
      try simp only [Act.put, List.setIfInBounds_toArray, List.set_cons_zero, List.set_cons_succ, List.getElem_toArray, List.getElem_cons_succ, List.getElem_cons_zero]
      refine wpAnyH_take (i := 1) (v := ?vv186) rfl (by kernel_rfl) (by kernel_rfl) (by kernel_rfl) (fun _ _ _ h => h) (Or.inl ⟨by rfl, ?hy186⟩) hHeld ?rr186
      case hy186 => (intro w' hSw; obtain ⟨s0, s1⟩ := hSw; go_simp; try with_reducible rfl)
      try simp only [Act.put, List.setIfInBounds_toArray, List.set_cons_zero, List.set_cons_succ, List.getElem_toArray, List.getElem_cons_succ, List.getElem_cons_zero]
      refine wpAnyH_take (i := 2) (v := ?vv187) rfl (by kernel_rfl) (by kernel_rfl) (by kernel_rfl) (fun _ _ _ h => h) (Or.inl ⟨by rfl, ?hy187⟩) hHeld ?rr187
      case hy187 => (intro w' hSw; obtain ⟨s0, s1⟩ := hSw; go_simp; try with_reducible rfl)
      try simp only [Act.put, List.setIfInBounds_toArray, List.set_cons_zero, List.set_cons_succ, List.getElem_toArray, List.getElem_cons_succ, List.getElem_cons_zero]
      refine wpAnyH_take (i := 3) (v := ?vv188) rfl (by kernel_rfl) (by kernel_rfl) (by kernel_rfl) (fun _ _ _ h => h) (Or.inl ⟨by rfl, ?hy188⟩) hHeld ?rr188
      case hy188 => (intro w' hSw; obtain ⟨s0, s1⟩ := hSw; go_simp; try with_reducible rfl)
      try simp only [Act.put, List.setIfInBounds_toArray, List.set_cons_zero, List.set_cons_succ, List.getElem_toArray, List.getElem_cons_succ, List.getElem_cons_zero]
      refine wpAnyH_take (i := 4) (v := ?vv189) rfl (by kernel_rfl) (by kernel_rfl) (by kernel_rfl) (fun _ _ _ h => h) (Or.inl ⟨by rfl, ?hy189⟩) hHeld ?rr189
      case hy189 => (intro w' hSw; obtain ⟨s0, s1⟩ := hSw; go_simp; try with_reducible rfl)
      try simp only [Act.put, List.setIfInBounds_toArray, List.set_cons_zero, List.set_cons_succ, List.getElem_toArray, List.getElem_cons_succ, List.getElem_cons_zero]
      refine wpAnyH_take (i := 5) (v := ?vv190) rfl (by kernel_rfl) (by kernel_rfl) (by kernel_rfl) (fun _ _ _ h => h) (Or.inl ⟨by rfl, ?hy190⟩) hHeld ?rr190
      case hy190 => (intro w' hSw; obtain ⟨s0, s1⟩ := hSw; go_simp; try with_reducible rfl)
      try simp only [Act.put, List.setIfInBounds_toArray, List.set_cons_zero, List.set_cons_succ, List.getElem_toArray, List.getElem_cons_succ, List.getElem_cons_zero]
      refine wpAnyH_take (i := 6) (v := ?vv191) rfl (by kernel_rfl) (by kernel_rfl) (by kernel_rfl) (fun _ _ _ h => h) (Or.inl ⟨by rfl, ?hy191⟩) hHeld ?rr191
      case hy191 => (intro w' hSw; obtain ⟨s0, s1⟩ := hSw; go_simp; try with_reducible rfl)
      try simp only [Act.put, List.setIfInBounds_toArray, List.set_cons_zero, List.set_cons_succ, List.getElem_toArray, List.getElem_cons_succ, List.getElem_cons_zero]
      refine wpAnyH_take (i := 7) (v := ?vv192) rfl (by kernel_rfl) (by kernel_rfl) (by kernel_rfl) (fun _ _ _ h => h) (Or.inl ⟨by rfl, ?hy192⟩) hHeld ?rr192
      case hy192 => (intro w' hSw; obtain ⟨s0, s1⟩ := hSw; go_simp; try with_reducible rfl)
      try simp only [Act.put, List.setIfInBounds_toArray, List.set_cons_zero, List.set_cons_succ, List.getElem_toArray, List.getElem_cons_succ, List.getElem_cons_zero]
      refine wpAnyH_take (i := 8) (v := ?vv193) rfl (by kernel_rfl) (by kernel_rfl) (by kernel_rfl) (fun _ _ _ h => h) (Or.inl ⟨by rfl, ?hy193⟩) hHeld ?rr193
      case hy193 => (intro w' hSw; obtain ⟨s0, s1⟩ := hSw; go_simp; try with_reducible rfl)
      try simp only [Act.put, List.setIfInBounds_toArray, List.set_cons_zero, List.set_cons_succ, List.getElem_toArray, List.getElem_cons_succ, List.getElem_cons_zero]
      refine wpAnyH_done (by kernel_rfl) ?_ _
      clear hHeld
      clear a1 a2
      obtain ⟨w3, hww3⟩ : ∃ y, y = w2.drew := ⟨_, rfl⟩
      have HO3 := Lib.hid (HO2.out.drew)
      rw [← hww3] at HO3 ⊢
      clear hww3
      go_wp2_with fail
      have a1 : w3.cell? ⟨w.heap.size, 1, none⟩ = some (.int .i64 km) := by rw [HN.out.1]; exact HO3.out.cells.2.1
      have a2 : w3.cell? ⟨p, 1, none⟩ = some (.int .i64 ym) := by rw [HN.out.2.2.2.1]; exact HO3.out.ses.c1
      refine wp_region_held_drew (S := (fun V => V.cell? ⟨w.heap.size, 1, none⟩ = some (.int .i64 km) ∧ V.cell? ⟨p, 1, none⟩ = some (.int .i64 ym))) (by kernel_rfl) ⟨a1, a2⟩ (fun hHeld => ?_)
      refine wpAnyH_take (i := 0) (v := ?vv194) rfl (by kernel_rfl) (by kernel_rfl) (by kernel_rfl) (fun _ _ _ h => h) (Or.inl ⟨by rfl, ?hy194⟩) hHeld ?rr194
      case hy194 => (intro w' hSw; obtain ⟨s0, s1⟩ := hSw; go_simp; try with_reducible rfl)
      try simp only [Act.put, List.setIfInBounds_toArray, List.set_cons_zero, List.set_cons_succ, List.getElem_toArray, List.getElem_cons_succ, List.getElem_cons_zero]
      refine wpAnyH_take (i := 1) (v := ?vv195) rfl (by kernel_rfl) (by kernel_rfl) (by kernel_rfl) (fun _ _ _ h => h) (Or.inl ⟨by rfl, ?hy195⟩) hHeld ?rr195
      case hy195 => (intro w' hSw; obtain ⟨s0, s1⟩ := hSw; go_simp; try with_reducible rfl)
      try simp only [Act.put, List.setIfInBounds_toArray, List.set_cons_zero, List.set_cons_succ, List.getElem_toArray, List.getElem_cons_succ, List.getElem_cons_zero]
      refine wpAnyH_take (i := 2) (v := ?vv196) rfl (by kernel_rfl) (by kernel_rfl) (by kernel_rfl) (fun _ _ _ h => h) (Or.inl ⟨by rfl, ?hy196⟩) hHeld ?rr196
      case hy196 => (intro w' hSw; obtain ⟨s0, s1⟩ := hSw; go_simp; try with_reducible rfl)
      try simp only [Act.put, List.setIfInBounds_toArray, List.set_cons_zero, List.set_cons_succ, List.getElem_toArray, List.getElem_cons_succ, List.getElem_cons_zero]
      refine wpAnyH_take (i := 3) (v := ?vv197) rfl (by kernel_rfl) (by kernel_rfl) (by kernel_rfl) (fun _ _ _ h => h) (Or.inl ⟨by rfl, ?hy197⟩) hHeld ?rr197
      case hy197 => (intro w' hSw; obtain ⟨s0, s1⟩ := hSw; go_simp; try with_reducible rfl)
      try simp only [Act.put, List.setIfInBounds_toArray, List.set_cons_zero, List.set_cons_succ, List.getElem_toArray, List.getElem_cons_succ, List.getElem_cons_zero]
      refine wpAnyH_take (i := 4) (v := ?vv198) rfl (by kernel_rfl) (by kernel_rfl) (by kernel_rfl) (fun _ _ _ h => h) (Or.inl ⟨by rfl, ?hy198⟩) hHeld ?rr198
      case hy198 => (intro w' hSw; obtain ⟨s0, s1⟩ := hSw; go_simp; try with_reducible rfl)
      try simp only [Act.put, List.setIfInBounds_toArray, List.set_cons_zero, List.set_cons_succ, List.getElem_toArray, List.getElem_cons_succ, List.getElem_cons_zero]
      refine wpAnyH_take (i := 5) (v := ?vv199) rfl (by kernel_rfl) (by kernel_rfl) (by kernel_rfl) (fun _ _ _ h => h) (Or.inl ⟨by rfl, ?hy199⟩) hHeld ?rr199
      case hy199 => (intro w' hSw; obtain ⟨s0, s1⟩ := hSw; go_simp; try with_reducible rfl)
      try simp only [Act.put, List.setIfInBounds_toArray, List.set_cons_zero, List.set_cons_succ, List.getElem_toArray, List.getElem_cons_succ, List.getElem_cons_zero]
      refine wpAnyH_take (i := 6) (v := ?vv200) rfl (by kernel_rfl) (by kernel_rfl) (by kernel_rfl) (fun _ _ _ h => h) (Or.inl ⟨by rfl, ?hy200⟩) hHeld ?rr200
      case hy200 => (intro w' hSw; obtain ⟨s0, s1⟩ := hSw; go_simp; try with_reducible rfl)
      try simp only [Act.put, List.setIfInBounds_toArray, List.set_cons_zero, List.set_cons_succ, List.getElem_toArray, List.getElem_cons_succ, List.getElem_cons_zero]
      refine wpAnyH_take (i := 7) (v := ?vv201) rfl (by kernel_rfl) (by kernel_rfl) (by kernel_rfl) (fun _ _ _ h => h) (Or.inl ⟨by rfl, ?hy201⟩) hHeld ?rr201
      case hy201 => (intro w' hSw; obtain ⟨s0, s1⟩ := hSw; go_simp; try with_reducible rfl)
      try simp only [Act.put, List.setIfInBounds_toArray, List.set_cons_zero, List.set_cons_succ, List.getElem_toArray, List.getElem_cons_succ, List.getElem_cons_zero]
      refine wpAnyH_done (by kernel_rfl) ?_ _
      clear hHeld
      clear a1 a2
      obtain ⟨w4, hww4⟩ : ∃ y, y = w3.drew := ⟨_, rfl⟩
      have HO4 := Lib.hid (HO3.out.drew)
      rw [← hww4] at HO4 ⊢
      clear hww4
      go_wp2_with fail
      have a1 : w4.cell? ⟨w.heap.size, 2, none⟩ = some (.int .i64 ky) := by rw [HN.out.2.1]; exact HO4.out.cells.2.2.1
      have a2 : w4.cell? ⟨p, 0, none⟩ = some (.int .i64 mm) := by rw [HN.out.2.2.2.2]; exact HO4.out.ses.c0
      refine wp_region_held_drew (S := (fun V => V.cell? ⟨w.heap.size, 2, none⟩ = some (.int .i64 ky) ∧ V.cell? ⟨p, 0, none⟩ = some (.int .i64 mm))) (by kernel_rfl) ⟨a1, a2⟩ (fun hHeld => ?_)
      refine wpAnyH_take (i := 0) (v := ?vv202) rfl (by kernel_rfl) (by kernel_rfl) (by kernel_rfl) (fun _ _ _ h => h) (Or.inl ⟨by rfl, ?hy202⟩) hHeld ?rr202
      case hy202 => (intro w' hSw; obtain ⟨s0, s1⟩ := hSw; go_simp; try with_reducible rfl)
      try simp only [Act.put, List.setIfInBounds_toArray, List.set_cons_zero, List.set_cons_succ, List.getElem_toArray, List.getElem_cons_succ, List.getElem_cons_zero]
      refine wpAnyH_take (i := 1) (v := ?vv203) rfl (by kernel_rfl) (by kernel_rfl) (by kernel_rfl) (fun _ _ _ h => h) (Or.inl ⟨by rfl, ?hy203⟩) hHeld ?rr203
      case hy203 => (intro w' hSw; obtain ⟨s0, s1⟩ := hSw; go_simp; try with_reducible rfl)
      try simp only [Act.put, List.setIfInBounds_toArray, List.set_cons_zero, List.set_cons_succ, List.getElem_toArray, List.getElem_cons_succ, List.getElem_cons_zero]
      refine wpAnyH_take (i := 2) (v := ?vv204) rfl (by kernel_rfl) (by kernel_rfl) (by kernel_rfl) (fun _ _ _ h => h) (Or.inl ⟨by rfl, ?hy204⟩) hHeld ?rr204
      case hy204 => (intro w' hSw; obtain ⟨s0, s1⟩ := hSw; go_simp; try with_reducible rfl)
      try simp only [Act.put, List.setIfInBounds_toArray, List.set_cons_zero, List.set_cons_succ, List.getElem_toArray, List.getElem_cons_succ, List.getElem_cons_zero]
      refine wpAnyH_take (i := 3) (v := ?vv205) rfl (by kernel_rfl) (by kernel_rfl) (by kernel_rfl) (fun _ _ _ h => h) (Or.inl ⟨by rfl, ?hy205⟩) hHeld ?rr205
      case hy205 => (intro w' hSw; obtain ⟨s0, s1⟩ := hSw; go_simp; try with_reducible rfl)
      try simp only [Act.put, List.setIfInBounds_toArray, List.set_cons_zero, List.set_cons_succ, List.getElem_toArray, List.getElem_cons_succ, List.getElem_cons_zero]
      refine wpAnyH_take (i := 4) (v := ?vv206) rfl (by kernel_rfl) (by kernel_rfl) (by kernel_rfl) (fun _ _ _ h => h) (Or.inl ⟨by rfl, ?hy206⟩) hHeld ?rr206
      case hy206 => (intro w' hSw; obtain ⟨s0, s1⟩ := hSw; go_simp; try with_reducible rfl)
      try simp only [Act.put, List.setIfInBounds_toArray, List.set_cons_zero, List.set_cons_succ, List.getElem_toArray, List.getElem_cons_succ, List.getElem_cons_zero]
      refine wpAnyH_take (i := 5) (v := ?vv207) rfl (by kernel_rfl) (by kernel_rfl) (by kernel_rfl) (fun _ _ _ h => h) (Or.inl ⟨by rfl, ?hy207⟩) hHeld ?rr207
      case hy207 => (intro w' hSw; obtain ⟨s0, s1⟩ := hSw; go_simp; try with_reducible rfl)
      try simp only [Act.put, List.setIfInBounds_toArray, List.set_cons_zero, List.set_cons_succ, List.getElem_toArray, List.getElem_cons_succ, List.getElem_cons_zero]
      refine wpAnyH_take (i := 6) (v := ?vv208) rfl (by kernel_rfl) (by kernel_rfl) (by kernel_rfl) (fun _ _ _ h => h) (Or.inl ⟨by rfl, ?hy208⟩) hHeld ?rr208
      case hy208 => (intro w' hSw; obtain ⟨s0, s1⟩ := hSw; go_simp; try with_reducible rfl)
      try simp only [Act.put, List.setIfInBounds_toArray, List.set_cons_zero, List.set_cons_succ, List.getElem_toArray, List.getElem_cons_succ, List.getElem_cons_zero]
      refine wpAnyH_done (by kernel_rfl) ?_ _
      clear hHeld
      clear a1 a2
      obtain ⟨w8, hww8⟩ : ∃ y, y = w4.drew := ⟨_, rfl⟩
      have HO8 := Lib.hid (HO4.out.drew)
      rw [← hww8] at HO8 ⊢
      clear hww8
      have t2 := HO8.out.ses.c2
      have f2 := HO8.out.ses.free 2
      have HO9 := Lib.hid (HO8.out.set 2 (.bool true) ⟨s.mine, { (s.l : Link) with knows := true }⟩ rfl (ok_knows HO8.out.ses.ok (by have := HPs.out.2.2.1.1; have := HD.out; have := HL.out; omega)) rfl rfl rfl)
      have a0 := HO8.out.cells.1
      rw [← HN.out.2.2.1] at a0
      have hgp : ¬ w.heap.size = p := fun e => HO8.out.nin.1 (e ▸ HO8.out.ses.inF.1)
      go_wp2_with fail
      obtain ⟨w9, hww9⟩ : ∃ y, y = w8.setCell ⟨p, 2, none⟩ (.bool true) := ⟨_, rfl⟩
      have HO10 := Lib.hid (HO9.out)
      rw [← hww9] at HO10 ⊢
      clear hww9
      clear a0 t2 f2
      have a4 := HO10.out.cells.2.2.2.2.1
      refine wp_region_held_drew (S := (fun V => V.cell? ⟨w.heap.size, 4, none⟩ = some (.int .i64 v.ack))) (by kernel_rfl) a4 (fun hHeld => ?_)
      refine wpAnyH_take (i := 0) (v := ?vv209) rfl (by kernel_rfl) (by kernel_rfl) (by kernel_rfl) (fun _ _ _ h => h) (Or.inl ⟨by rfl, ?hy209⟩) hHeld ?rr209
      case hy209 => (intro w' hSw; have s0 := hSw; go_simp; try with_reducible rfl)
      try simp only [Act.put, List.setIfInBounds_toArray, List.set_cons_zero, List.set_cons_succ, List.getElem_toArray, List.getElem_cons_succ, List.getElem_cons_zero]
      refine wpAnyH_take (i := 1) (v := ?vv210) rfl (by kernel_rfl) (by kernel_rfl) (by kernel_rfl) (fun _ _ _ h => h) (Or.inl ⟨by rfl, ?hy210⟩) hHeld ?rr210
      case hy210 => (intro w' hSw; have s0 := hSw; go_simp; try with_reducible rfl)
      try simp only [Act.put, List.setIfInBounds_toArray, List.set_cons_zero, List.set_cons_succ, List.getElem_toArray, List.getElem_cons_succ, List.getElem_cons_zero]
      refine wpAnyH_take (i := 2) (v := ?vv211) rfl (by kernel_rfl) (by kernel_rfl) (by kernel_rfl) (fun _ _ _ h => h) (Or.inl ⟨by rfl, ?hy211⟩) hHeld ?rr211
      case hy211 => (intro w' hSw; have s0 := hSw; go_simp; try with_reducible rfl)
      try simp only [Act.put, List.setIfInBounds_toArray, List.set_cons_zero, List.set_cons_succ, List.getElem_toArray, List.getElem_cons_succ, List.getElem_cons_zero]
      refine wpAnyH_take (i := 3) (v := ?vv212) rfl (by kernel_rfl) (by kernel_rfl) (by kernel_rfl) (fun _ _ _ h => h) (Or.inl ⟨by rfl, ?hy212⟩) hHeld ?rr212
      case hy212 => (intro w' hSw; have s0 := hSw; go_simp; try with_reducible rfl)
      try simp only [Act.put, List.setIfInBounds_toArray, List.set_cons_zero, List.set_cons_succ, List.getElem_toArray, List.getElem_cons_succ, List.getElem_cons_zero]
      refine wpAnyH_take (i := 4) (v := ?vv213) rfl (by kernel_rfl) (by kernel_rfl) (by kernel_rfl) (fun _ _ _ h => h) (Or.inl ⟨by rfl, ?hy213⟩) hHeld ?rr213
      case hy213 => (intro w' hSw; have s0 := hSw; go_simp; try with_reducible rfl)
      try simp only [Act.put, List.setIfInBounds_toArray, List.set_cons_zero, List.set_cons_succ, List.getElem_toArray, List.getElem_cons_succ, List.getElem_cons_zero]
      refine wpAnyH_ready (rs := [5]) (by kernel_rfl) (by simp) ?_
      refine AllReadyH.cons rfl (fun K hK => ?_) AllReadyH.nil
      try rw [if_pos (by rfl)]
      go_simp
      go_at_call 22
      refine Calls.mono (letGo_any HO10.out.drew.ses v.ack HPs.out.2.1) ?_
      rintro e w11 ⟨rfl, hse, hmv, hku⟩
      obtain ⟨A11, c11, vs11, bm11, D11, hx11⟩ := hse
      have HO11 := Lib.hid (HO10.out.drew.call hx11 hmv hku)
      have a4b := HO11.out.cells.2.2.2.2.1
      clear hmv hku hx11
      go_wp2_with fail
      refine hK.out _ _ a4b (fun hHeld2 => ?_)
      clear hK K hHeld
      have hHeld := hHeld2
      clear hHeld2
      try simp only [Act.put, List.setIfInBounds_toArray, List.set_cons_zero, List.set_cons_succ, List.getElem_toArray, List.getElem_cons_succ, List.getElem_cons_zero]
      refine wpAnyH_done (by kernel_rfl) ?_ _
      clear hHeld
      clear a4 a4b
      go_wp2
      go_ret3
      refine HO11.out.post0 (fun k h => .inl h) ?_
      rw [onS_ack HFv.out (by have := HL.out; omega) (by rw [← HN.out.2.1, ← HN.out.2.2.2.2]; exact H2.out) (by rw [← HN.out.2.2.1]), decide_eq_false (by have := HD.out; omega : ¬ s.l.yours < v.mine), freshL_old (by have := HD.out; omega)]
  have H2 : Hid (ky ≠ mm) := Lib.hid h3
  have h3b : (ky != mm) = true := by simp [h3]
  have h3c : (ky == mm) = false := by simp [h3]
  go_enter Try.func10, Try.ntmps10
  go_wp2_with (first
    | rw [← HW1.out]
    | (go_at_call 19; refine Calls.mono (by with_reducible exact HC.out) ?_; rintro e w1 ⟨rfl, rfl⟩)
    | (go_at_call 20; refine Calls.mono (by with_reducible exact HFi.out) ?_; rintro e w2 ⟨rfl, hb⟩; have HB2 := Lib.hid hb; clear hb))
  have HO2 := Lib.hid (HO1.out.later HB2.out)
  clear e0 e1 e2 e3 e4 e5
  have a1 : w2.cell? ⟨w.heap.size, 1, none⟩ = some (.int .i64 km) := by rw [HN.out.1]; exact HO2.out.cells.2.1
  have a2 : w2.cell? ⟨p, 1, none⟩ = some (.int .i64 ym) := by rw [HN.out.2.2.2.1]; exact HO2.out.ses.c1
  refine wp_region_held_drew (S := (fun V => V.cell? ⟨w.heap.size, 1, none⟩ = some (.int .i64 km) ∧ V.cell? ⟨p, 1, none⟩ = some (.int .i64 ym))) (by kernel_rfl) ⟨a1, a2⟩ (fun hHeld => ?_)
  refine wpAnyH_take (i := 0) (v := ?vv214) rfl (by kernel_rfl) (by kernel_rfl) (by kernel_rfl) (fun _ _ _ h => h) (Or.inl ⟨by rfl, ?hy214⟩) hHeld ?rr214
  case hy214 => (intro w' hSw; obtain ⟨s0, s1⟩ := hSw; go_simp; try with_reducible rfl)
  try simp only [Act.put, List.setIfInBounds_toArray, List.set_cons_zero, List.set_cons_succ, List.getElem_toArray, List.getElem_cons_succ, List.getElem_cons_zero]
  refine wpAnyH_take (i := 1) (v := ?vv215) rfl (by kernel_rfl) (by kernel_rfl) (by kernel_rfl) (fun _ _ _ h => h) (Or.inl ⟨by rfl, ?hy215⟩) hHeld ?rr215
  case hy215 => (intro w' hSw; obtain ⟨s0, s1⟩ := hSw; go_simp; try with_reducible rfl)
  try simp only [Act.put, List.setIfInBounds_toArray, List.set_cons_zero, List.set_cons_succ, List.getElem_toArray, List.getElem_cons_succ, List.getElem_cons_zero]
  refine wpAnyH_take (i := 2) (v := ?vv216) rfl (by kernel_rfl) (by kernel_rfl) (by kernel_rfl) (fun _ _ _ h => h) (Or.inl ⟨by rfl, ?hy216⟩) hHeld ?rr216
  case hy216 => (intro w' hSw; obtain ⟨s0, s1⟩ := hSw; go_simp; try with_reducible rfl)
  try simp only [Act.put, List.setIfInBounds_toArray, List.set_cons_zero, List.set_cons_succ, List.getElem_toArray, List.getElem_cons_succ, List.getElem_cons_zero]
  refine wpAnyH_take (i := 3) (v := ?vv217) rfl (by kernel_rfl) (by kernel_rfl) (by kernel_rfl) (fun _ _ _ h => h) (Or.inl ⟨by rfl, ?hy217⟩) hHeld ?rr217
  case hy217 => (intro w' hSw; obtain ⟨s0, s1⟩ := hSw; go_simp; try with_reducible rfl)
  try simp only [Act.put, List.setIfInBounds_toArray, List.set_cons_zero, List.set_cons_succ, List.getElem_toArray, List.getElem_cons_succ, List.getElem_cons_zero]
  refine wpAnyH_take (i := 4) (v := ?vv218) rfl (by kernel_rfl) (by kernel_rfl) (by kernel_rfl) (fun _ _ _ h => h) (Or.inl ⟨by rfl, ?hy218⟩) hHeld ?rr218
  case hy218 => (intro w' hSw; obtain ⟨s0, s1⟩ := hSw; go_simp; try with_reducible rfl)
  try simp only [Act.put, List.setIfInBounds_toArray, List.set_cons_zero, List.set_cons_succ, List.getElem_toArray, List.getElem_cons_succ, List.getElem_cons_zero]
  refine wpAnyH_take (i := 5) (v := ?vv219) rfl (by kernel_rfl) (by kernel_rfl) (by kernel_rfl) (fun _ _ _ h => h) (Or.inl ⟨by rfl, ?hy219⟩) hHeld ?rr219
  case hy219 => (intro w' hSw; obtain ⟨s0, s1⟩ := hSw; go_simp; try with_reducible rfl)
  try simp only [Act.put, List.setIfInBounds_toArray, List.set_cons_zero, List.set_cons_succ, List.getElem_toArray, List.getElem_cons_succ, List.getElem_cons_zero]
  refine wpAnyH_take (i := 6) (v := ?vv220) rfl (by kernel_rfl) (by kernel_rfl) (by kernel_rfl) (fun _ _ _ h => h) (Or.inl ⟨by rfl, ?hy220⟩) hHeld ?rr220
  case hy220 => (intro w' hSw; obtain ⟨s0, s1⟩ := hSw; go_simp; try with_reducible rfl)
  try simp only [Act.put, List.setIfInBounds_toArray, List.set_cons_zero, List.set_cons_succ, List.getElem_toArray, List.getElem_cons_succ, List.getElem_cons_zero]
  refine wpAnyH_take (i := 7) (v := ?vv221) rfl (by kernel_rfl) (by kernel_rfl) (by kernel_rfl) (fun _ _ _ h => h) (Or.inl ⟨by rfl, ?hy221⟩) hHeld ?rr221
  case hy221 => (intro w' hSw; obtain ⟨s0, s1⟩ := hSw; go_simp; try with_reducible rfl)
  try simp only [Act.put, List.setIfInBounds_toArray, List.set_cons_zero, List.set_cons_succ, List.getElem_toArray, List.getElem_cons_succ, List.getElem_cons_zero]
  refine wpAnyH_take (i := 8) (v := ?vv222) rfl (by kernel_rfl) (by kernel_rfl) (by kernel_rfl) (fun _ _ _ h => h) (Or.inl ⟨by rfl, ?hy222⟩) hHeld ?rr222
  case hy222 => (intro w' hSw; obtain ⟨s0, s1⟩ := hSw; go_simp; try with_reducible rfl)
  try simp only [Act.put, List.setIfInBounds_toArray, List.set_cons_zero, List.set_cons_succ, List.getElem_toArray, List.getElem_cons_succ, List.getElem_cons_zero]
  refine wpAnyH_done (by kernel_rfl) ?_ _
  clear hHeld
  clear a1 a2
  obtain ⟨w3, hww3⟩ : ∃ y, y = w2.drew := ⟨_, rfl⟩
  have HO3 := Lib.hid (HO2.out.drew)
  rw [← hww3] at HO3 ⊢
  clear hww3
  go_wp2_with fail
  have a1 : w3.cell? ⟨w.heap.size, 1, none⟩ = some (.int .i64 km) := by rw [HN.out.1]; exact HO3.out.cells.2.1
  have a2 : w3.cell? ⟨p, 1, none⟩ = some (.int .i64 ym) := by rw [HN.out.2.2.2.1]; exact HO3.out.ses.c1
  refine wp_region_held_drew (S := (fun V => V.cell? ⟨w.heap.size, 1, none⟩ = some (.int .i64 km) ∧ V.cell? ⟨p, 1, none⟩ = some (.int .i64 ym))) (by kernel_rfl) ⟨a1, a2⟩ (fun hHeld => ?_)
  refine wpAnyH_take (i := 0) (v := ?vv223) rfl (by kernel_rfl) (by kernel_rfl) (by kernel_rfl) (fun _ _ _ h => h) (Or.inl ⟨by rfl, ?hy223⟩) hHeld ?rr223
  case hy223 => (intro w' hSw; obtain ⟨s0, s1⟩ := hSw; go_simp; try with_reducible rfl)
  try simp only [Act.put, List.setIfInBounds_toArray, List.set_cons_zero, List.set_cons_succ, List.getElem_toArray, List.getElem_cons_succ, List.getElem_cons_zero]
  refine wpAnyH_take (i := 1) (v := ?vv224) rfl (by kernel_rfl) (by kernel_rfl) (by kernel_rfl) (fun _ _ _ h => h) (Or.inl ⟨by rfl, ?hy224⟩) hHeld ?rr224
  case hy224 => (intro w' hSw; obtain ⟨s0, s1⟩ := hSw; go_simp; try with_reducible rfl)
  try simp only [Act.put, List.setIfInBounds_toArray, List.set_cons_zero, List.set_cons_succ, List.getElem_toArray, List.getElem_cons_succ, List.getElem_cons_zero]
  refine wpAnyH_take (i := 2) (v := ?vv225) rfl (by kernel_rfl) (by kernel_rfl) (by kernel_rfl) (fun _ _ _ h => h) (Or.inl ⟨by rfl, ?hy225⟩) hHeld ?rr225
  case hy225 => (intro w' hSw; obtain ⟨s0, s1⟩ := hSw; go_simp; try with_reducible rfl)
  try simp only [Act.put, List.setIfInBounds_toArray, List.set_cons_zero, List.set_cons_succ, List.getElem_toArray, List.getElem_cons_succ, List.getElem_cons_zero]
  refine wpAnyH_take (i := 3) (v := ?vv226) rfl (by kernel_rfl) (by kernel_rfl) (by kernel_rfl) (fun _ _ _ h => h) (Or.inl ⟨by rfl, ?hy226⟩) hHeld ?rr226
  case hy226 => (intro w' hSw; obtain ⟨s0, s1⟩ := hSw; go_simp; try with_reducible rfl)
  try simp only [Act.put, List.setIfInBounds_toArray, List.set_cons_zero, List.set_cons_succ, List.getElem_toArray, List.getElem_cons_succ, List.getElem_cons_zero]
  refine wpAnyH_take (i := 4) (v := ?vv227) rfl (by kernel_rfl) (by kernel_rfl) (by kernel_rfl) (fun _ _ _ h => h) (Or.inl ⟨by rfl, ?hy227⟩) hHeld ?rr227
  case hy227 => (intro w' hSw; obtain ⟨s0, s1⟩ := hSw; go_simp; try with_reducible rfl)
  try simp only [Act.put, List.setIfInBounds_toArray, List.set_cons_zero, List.set_cons_succ, List.getElem_toArray, List.getElem_cons_succ, List.getElem_cons_zero]
  refine wpAnyH_take (i := 5) (v := ?vv228) rfl (by kernel_rfl) (by kernel_rfl) (by kernel_rfl) (fun _ _ _ h => h) (Or.inl ⟨by rfl, ?hy228⟩) hHeld ?rr228
  case hy228 => (intro w' hSw; obtain ⟨s0, s1⟩ := hSw; go_simp; try with_reducible rfl)
  try simp only [Act.put, List.setIfInBounds_toArray, List.set_cons_zero, List.set_cons_succ, List.getElem_toArray, List.getElem_cons_succ, List.getElem_cons_zero]
  refine wpAnyH_take (i := 6) (v := ?vv229) rfl (by kernel_rfl) (by kernel_rfl) (by kernel_rfl) (fun _ _ _ h => h) (Or.inl ⟨by rfl, ?hy229⟩) hHeld ?rr229
  case hy229 => (intro w' hSw; obtain ⟨s0, s1⟩ := hSw; go_simp; try with_reducible rfl)
  try simp only [Act.put, List.setIfInBounds_toArray, List.set_cons_zero, List.set_cons_succ, List.getElem_toArray, List.getElem_cons_succ, List.getElem_cons_zero]
  refine wpAnyH_take (i := 7) (v := ?vv230) rfl (by kernel_rfl) (by kernel_rfl) (by kernel_rfl) (fun _ _ _ h => h) (Or.inl ⟨by rfl, ?hy230⟩) hHeld ?rr230
  case hy230 => (intro w' hSw; obtain ⟨s0, s1⟩ := hSw; go_simp; try with_reducible rfl)
  try simp only [Act.put, List.setIfInBounds_toArray, List.set_cons_zero, List.set_cons_succ, List.getElem_toArray, List.getElem_cons_succ, List.getElem_cons_zero]
  refine wpAnyH_done (by kernel_rfl) ?_ _
  clear hHeld
  clear a1 a2
  obtain ⟨w4, hww4⟩ : ∃ y, y = w3.drew := ⟨_, rfl⟩
  have HO4 := Lib.hid (HO3.out.drew)
  rw [← hww4] at HO4 ⊢
  clear hww4
  go_wp2_with fail
  have a1 : w4.cell? ⟨w.heap.size, 2, none⟩ = some (.int .i64 ky) := by rw [HN.out.2.1]; exact HO4.out.cells.2.2.1
  have a2 : w4.cell? ⟨p, 0, none⟩ = some (.int .i64 mm) := by rw [HN.out.2.2.2.2]; exact HO4.out.ses.c0
  refine wp_region_held_drew (S := (fun V => V.cell? ⟨w.heap.size, 2, none⟩ = some (.int .i64 ky) ∧ V.cell? ⟨p, 0, none⟩ = some (.int .i64 mm))) (by kernel_rfl) ⟨a1, a2⟩ (fun hHeld => ?_)
  refine wpAnyH_take (i := 0) (v := ?vv231) rfl (by kernel_rfl) (by kernel_rfl) (by kernel_rfl) (fun _ _ _ h => h) (Or.inl ⟨by rfl, ?hy231⟩) hHeld ?rr231
  case hy231 => (intro w' hSw; obtain ⟨s0, s1⟩ := hSw; go_simp; try with_reducible rfl)
  try simp only [Act.put, List.setIfInBounds_toArray, List.set_cons_zero, List.set_cons_succ, List.getElem_toArray, List.getElem_cons_succ, List.getElem_cons_zero]
  refine wpAnyH_take (i := 1) (v := ?vv232) rfl (by kernel_rfl) (by kernel_rfl) (by kernel_rfl) (fun _ _ _ h => h) (Or.inl ⟨by rfl, ?hy232⟩) hHeld ?rr232
  case hy232 => (intro w' hSw; obtain ⟨s0, s1⟩ := hSw; go_simp; try with_reducible rfl)
  try simp only [Act.put, List.setIfInBounds_toArray, List.set_cons_zero, List.set_cons_succ, List.getElem_toArray, List.getElem_cons_succ, List.getElem_cons_zero]
  refine wpAnyH_take (i := 2) (v := ?vv233) rfl (by kernel_rfl) (by kernel_rfl) (by kernel_rfl) (fun _ _ _ h => h) (Or.inl ⟨by rfl, ?hy233⟩) hHeld ?rr233
  case hy233 => (intro w' hSw; obtain ⟨s0, s1⟩ := hSw; go_simp; try with_reducible rfl)
  try simp only [Act.put, List.setIfInBounds_toArray, List.set_cons_zero, List.set_cons_succ, List.getElem_toArray, List.getElem_cons_succ, List.getElem_cons_zero]
  refine wpAnyH_take (i := 3) (v := ?vv234) rfl (by kernel_rfl) (by kernel_rfl) (by kernel_rfl) (fun _ _ _ h => h) (Or.inl ⟨by rfl, ?hy234⟩) hHeld ?rr234
  case hy234 => (intro w' hSw; obtain ⟨s0, s1⟩ := hSw; go_simp; try with_reducible rfl)
  try simp only [Act.put, List.setIfInBounds_toArray, List.set_cons_zero, List.set_cons_succ, List.getElem_toArray, List.getElem_cons_succ, List.getElem_cons_zero]
  refine wpAnyH_take (i := 4) (v := ?vv235) rfl (by kernel_rfl) (by kernel_rfl) (by kernel_rfl) (fun _ _ _ h => h) (Or.inl ⟨by rfl, ?hy235⟩) hHeld ?rr235
  case hy235 => (intro w' hSw; obtain ⟨s0, s1⟩ := hSw; go_simp; try with_reducible rfl)
  try simp only [Act.put, List.setIfInBounds_toArray, List.set_cons_zero, List.set_cons_succ, List.getElem_toArray, List.getElem_cons_succ, List.getElem_cons_zero]
  refine wpAnyH_take (i := 5) (v := ?vv236) rfl (by kernel_rfl) (by kernel_rfl) (by kernel_rfl) (fun _ _ _ h => h) (Or.inl ⟨by rfl, ?hy236⟩) hHeld ?rr236
  case hy236 => (intro w' hSw; obtain ⟨s0, s1⟩ := hSw; go_simp; try with_reducible rfl)
  try simp only [Act.put, List.setIfInBounds_toArray, List.set_cons_zero, List.set_cons_succ, List.getElem_toArray, List.getElem_cons_succ, List.getElem_cons_zero]
  refine wpAnyH_take (i := 6) (v := ?vv237) rfl (by kernel_rfl) (by kernel_rfl) (by kernel_rfl) (fun _ _ _ h => h) (Or.inl ⟨by rfl, ?hy237⟩) hHeld ?rr237
  case hy237 => (intro w' hSw; obtain ⟨s0, s1⟩ := hSw; go_simp; try with_reducible rfl)
  try simp only [Act.put, List.setIfInBounds_toArray, List.set_cons_zero, List.set_cons_succ, List.getElem_toArray, List.getElem_cons_succ, List.getElem_cons_zero]
  refine wpAnyH_done (by kernel_rfl) ?_ _
  clear hHeld
  clear a1 a2
  obtain ⟨w8, hww8⟩ : ∃ y, y = w4.drew := ⟨_, rfl⟩
  have HO8 := Lib.hid (HO4.out.drew)
  rw [← hww8] at HO8 ⊢
  clear hww8
  have t3 := HO8.out.ses.c3
  have f3 := HO8.out.ses.free 3
  go_wp2
  go_ret3
  refine (HO8.out.set 3 (.bool true) ⟨s.mine, { (s.l : Link) with helloDue := true }⟩ rfl (ok_hello HO8.out.ses.ok true) rfl rfl rfl).post0 (fun k h => .inl h) ?_
  rw [onS_other HFv.out (by have := HL.out; omega) (by rw [← HN.out.2.1, ← HN.out.2.2.2.2]; exact H2.out), decide_eq_false (by have := HD.out; omega : ¬ s.l.yours < v.mine), freshL_old (by have := HD.out; omega)]
end
end Go.Proofs.Ytihkjdoajfjnpaa
