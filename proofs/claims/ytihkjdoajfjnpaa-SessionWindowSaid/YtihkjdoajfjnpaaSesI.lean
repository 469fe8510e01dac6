/- Package session: take. -/
import Derived.Test.YtihkjdoajfjnpaaSesH
import Derived.Maps.Views
import Derived.Deep.LoopGhost
set_option linter.unusedSimpArgs false
set_option linter.unusedVariables false
namespace Go.Ses
/-- k rounds of take's loop behind. -/
def tkL (l : Link) (f : Int → Option Bytes) (P k : Nat) : Link := { l with ackDue := true, inn := without f l.wanted k, wanted := l.wanted + (k : Int), puts := P }
theorem without_zero (f : Int → Option Bytes) (a : Int) : without f a 0 = f := by
  funext j; unfold without; rw [if_neg (by omega)]
theorem without_at (f : Int → Option Bytes) (a : Int) (k : Nat) : without f a k (a + k) = f (a + k) := by unfold without; rw [if_neg (by omega)]
theorem without_succ (f : Int → Option Bytes) (a : Int) (k : Nat) : (fun i => if i = a + (k : Int) then none else without f a k i) = without f a (k + 1) := by
  funext j
  unfold without
  by_cases h1 : j = a + (k : Int)
  · rw [if_pos h1, if_pos (by omega)]
  · rw [if_neg h1]
    by_cases h2 : a ≤ j ∧ j < a + (k : Int)
    · rw [if_pos h2, if_pos (by omega)]
    · rw [if_neg h2, if_neg (by omega)]
theorem ok_tk0 {m : Int} {l : Link} (h : Ok ⟨m, l⟩) {q : Int} {b : Bytes} (P : Nat) (h1 : l.wanted ≤ q) (hq : q ≤ 2147483647) (hb : b.length ≤ 32768) : Ok ⟨m, tkL l (putF l.inn q b) P 0⟩ := by
  refine ⟨h.mine, h.yours, h.knows, h.gone, h.few, h.sent, h.small, h.outs, ?_, fun j x hj => ?_, h.hGap, h.aGap⟩
  · show 1 ≤ l.wanted + ((0 : Nat) : Int) ∧ l.wanted + ((0 : Nat) : Int) ≤ 2147483648
    have := h.wanted; simp only at this; omega
  · have hj' : without (putF l.inn q b) l.wanted 0 j = some x := hj
    rw [without_zero] at hj'
    show l.wanted + ((0 : Nat) : Int) ≤ j ∧ _
    rcases putF_some hj' with h2 | ⟨rfl, rfl⟩
    · have := h.inn j x h2; simp only at this; exact ⟨by omega, this.2⟩
    · exact ⟨by omega, hq, hb⟩
theorem ok_tk {m : Int} {l : Link} {f : Int → Option Bytes} {P k : Nat} {b : Bytes} (h : Ok ⟨m, tkL l f P k⟩) (hf : f (l.wanted + k) = some b) :
    Ok ⟨m, { tkL l f P k with inn := fun i => if i = l.wanted + (k : Int) then none else (tkL l f P k).inn i }⟩ ∧ Ok ⟨m, tkL l f P (k + 1)⟩ := by
  have hk := h.inn (l.wanted + k) b (by show without f l.wanted k (l.wanted + k) = _; rw [without_at]; exact hf)
  have hw := h.wanted
  refine ⟨⟨h.mine, h.yours, h.knows, h.gone, h.few, h.sent, h.small, h.outs, h.wanted, fun j x hj => ?_, h.hGap, h.aGap⟩, ⟨h.mine, h.yours, h.knows, h.gone, h.few, h.sent, h.small, h.outs, ?_, fun j x hj => ?_, h.hGap, h.aGap⟩⟩
  · have hj' : (if j = l.wanted + (k : Int) then none else (tkL l f P k).inn j) = some x := hj
    split at hj'
    · cases hj'
    · exact h.inn j x hj'
  · have hw' : 1 ≤ l.wanted + (k : Int) ∧ l.wanted + (k : Int) ≤ 2147483648 := hw
    show 1 ≤ l.wanted + ((k + 1 : Nat) : Int) ∧ l.wanted + ((k + 1 : Nat) : Int) ≤ 2147483648
    omega
  · have hj' : without f l.wanted (k + 1) j = some x := hj
    rw [← without_succ] at hj'
    simp only at hj'
    split at hj'
    · cases hj'
    · rename_i hne
      have h2 := h.inn j x hj'
      have h3 : l.wanted + (k : Int) ≤ j := h2.1
      refine ⟨?_, h2.2⟩
      show l.wanted + ((k + 1 : Nat) : Int) ≤ j
      omega
theorem tkL_zero (l : Link) (f : Int → Option Bytes) (P : Nat) : tkL l f P 0 = { l with ackDue := true, inn := f, puts := P } := by
  unfold tkL; rw [without_zero]; simp
theorem takeS_out {l : Link} {q : Int} (b : Bytes) (h : q < l.wanted ∨ l.wanted + 64 ≤ q) : takeS l q b = ([], { l with ackDue := true }) := by unfold takeS; rw [if_pos h]
theorem takeS_in {l : Link} {q : Int} {b : Bytes} {bs : List Bytes} (h1 : ¬ q < l.wanted) (h2 : ¬ l.wanted + 64 ≤ q) (hn : bs.length < l.puts + 2) (hb : ∀ (k : Nat) x, bs[k]? = some x → putF l.inn q b (l.wanted + k) = some x) (he : putF l.inn q b (l.wanted + bs.length) = none) :
    takeS l q b = (bs, tkL l (putF l.inn q b) (l.puts + 1) bs.length) := by
  unfold takeS
  rw [if_neg (fun e => e.elim h1 h2), drain_is _ _ _ bs hn hb he]
  rfl
end Go.Ses
namespace Go.Proofs.Ytihkjdoajfjnpaa
open Go.ChangeShapes Go.WideShapes Go.ChangeAt Go.RowKit Go.Base Go.Ses Go.Maps

theorem law_int : Keyed Try.prog 3 := int_keyed Try.underlying3
theorem key_int {j : Int} (h : -9223372036854775808 ≤ j ∧ j ≤ 9223372036854775807) : keyOf Try.prog 3 (.int .i64 j) = some (.int .i64 j) := keyOf_int_mk Try.underlying3 (WalkArith.wf_i64 h)
theorem key_ne {i j : Int} (h : i ≠ j) : (Lit.int .i64 i) ≠ .int .i64 j := fun e => h (by injection e)
section
variable {F G : Nat → Prop} {w w1 w' : World} {p : Nat} {s s2 : Ss} {A : Option Addr} {c : Nat} {vs : List SlV} {bm : Nat} {D D' : DataW Value} {q : Nat → Prop}
/-- The map has turned. -/
theorem SesX.map_set (h : SesX w F p s A c vs bm D) (hm : Moved (fun k => k = bm) w w') (hmap : w'.ownsMap Try.prog 3 idE bm (Maps.size D') D') (hc : sesC s2 A vs.length c bm = sesC s A vs.length c bm) (hok : Ok s2) (ho : s2.l.out = s.l.out) (hz : Maps.size D' ≤ s2.l.puts)
    (hn : ∀ j, s2.l.inn j = none → Maps.has D' (.int .i64 j) = false) (hs : ∀ j b, s2.l.inn j = some b → ∃ x : SlV, x.b = b ∧ Maps.has D' (.int .i64 j) = true ∧ (∀ z, D'.atKey (.int .i64 j) z = .held x.val) ∧ ByU w x.A b) :
    SesX w' F p s2 A c vs bm D' ∧ Ku w w' := by
  have hu : Ku w w' := hm.ku (fun T hT k cs z e hk => h.bm_ne hk e.symm)
  exact ⟨⟨hok, by rw [hc]; exact hm.heap h.self (fun e => h.bm_ne h.self e.symm), own_moved h.row hm (fun k hk e => h.row_ne.2 (by rw [hk, e])), h.outs.trans ho.symm, fun x hx => (h.bod x hx).kept hu, hmap, hz, hn,
    (fun j b hj => by obtain ⟨x, a1, a2, a3, a4⟩ := hs j b hj; exact ⟨x, a1, a2, a3, a4.kept hu⟩), h.inF⟩, hu⟩
theorem own_exactV {n : Nat} (h : w.ownsMap Try.prog 3 idE bm n D) : w.ownsMap Try.prog 3 idE bm (Maps.size D) D := by
  obtain ⟨es, clock, hb, Fi, hs, rfl⟩ := h
  exact ⟨es, clock, hb, Fi, by simp [Maps.size, length_sorted], rfl⟩
/-- A look-up. -/
theorem SesX.look (h : SesX w F p s A c vs bm D) {j : Int} (hj : -9223372036854775808 ≤ j ∧ j ≤ 9223372036854775807) :
    (s.l.inn j = none → (Instr.lookup 54 (.map (some bm)) (.int .i64 j) true).run Try.prog w = .ok (.tuple #[.slice none 0 0, .bool false]) w) ∧
    (∀ b, s.l.inn j = some b → ∃ x : SlV, x.b = b ∧ Maps.has D (.int .i64 j) = true ∧ ByU w x.A b ∧ (Instr.lookup 54 (.map (some bm)) (.int .i64 j) true).run Try.prog w = .ok (.tuple #[x.val, .bool true]) w) := by
  obtain ⟨v, ps, hrun, hv⟩ := h.map.look_ok law_int Try.underlying54 (zeroSl w) (zd := .held (.slice none 0 0)) (zp := []) rfl (key_int hj)
  refine ⟨fun hn => ?_, fun b hb => ?_⟩
  · have hf := h.non j hn
    rw [Maps.atKey_of_not_has hf] at hv
    rw [idE_inv hv, hf] at hrun
    exact hrun
  · obtain ⟨x, a1, a2, a3, a4⟩ := h.som j b hb
    rw [a3] at hv
    rw [idE_inv hv, a2] at hrun
    exact ⟨x, a1, a2, a4, hrun⟩
/-- One that was not there, set. -/
theorem SesX.store (h : SesX w F p s A c vs bm D) {j : Int} (hj : -9223372036854775808 ≤ j ∧ j ≤ 9223372036854775807) (x : SlV) (hx : ByU w x.A x.b) (hp : s.l.puts < 1000000) (hjn : s.l.inn j = none)
    (hok : Ok ⟨s.mine, { s.l with inn := putF s.l.inn j x.b, puts := s.l.puts + 1 }⟩) :
    ∃ w' D', (Instr.mapUpdate 54 (.map (some bm)) (.int .i64 j) x.val).run Try.prog w = .ok () w' ∧ SesX w' F p ⟨s.mine, { s.l with inn := putF s.l.inn j x.b, puts := s.l.puts + 1 }⟩ A c vs bm D' ∧ Moved (fun k => k = bm) w w' ∧ Ku w w' := by
  obtain ⟨w', hrun, hown, hturn⟩ := h.map.store law_int Try.underlying54 (by have := h.size; unfold maxLen; omega) (key_int hj) (val := x.val) (d := .held x.val) (ps := []) rfl
  have hm : Moved (fun k => k = bm) w w' := Moved.grown (p := fun k => k = bm) (Moved.refl _ w) hturn.grown (fun k _ e => (Option.some.inj e).symm)
  have hM := h.map.isMap
  have hT := h.map.tidy law_int
  have hK : WideAt.IsKeyLit (.int .i64 j) := ⟨⟩
  have hz : Maps.size (D.put (.int .i64 j) (.held x.val)) ≤ s.l.puts + 1 := by
    rw [Maps.size_put hT, h.non j hjn]
    have := h.size
    simp; omega
  have hn2 : ∀ i, putF s.l.inn j x.b i = none → Maps.has (D.put (.int .i64 j) (.held x.val)) (.int .i64 i) = false := fun i hi' => by
    rw [putF_new x.b hjn] at hi'
    simp only at hi'
    split at hi'
    · cases hi'
    · rename_i hne
      rw [Maps.has_put_other (key_ne hne)]
      exact h.non i hi'
  have hs2 : ∀ i b, putF s.l.inn j x.b i = some b → ∃ y : SlV, y.b = b ∧ Maps.has (D.put (.int .i64 j) (.held x.val)) (.int .i64 i) = true ∧ (∀ z, (D.put (.int .i64 j) (.held x.val)).atKey (.int .i64 i) z = .held y.val) ∧ ByU w y.A b := fun i b hi' => by
    rw [putF_new x.b hjn] at hi'
    simp only at hi'
    split at hi'
    · rename_i e
      subst e
      injection hi' with hi'
      subst hi'
      exact ⟨x, rfl, Maps.has_put_same hM hK _, fun z => Maps.atKey_put_same hM hK _ z, hx⟩
    · rename_i hne
      obtain ⟨y, a1, a2, a3, a4⟩ := h.som i b hi'
      exact ⟨y, a1, by rw [Maps.has_put_other (key_ne hne)]; exact a2, fun z => by rw [Maps.atKey_put_other (key_ne hne)]; exact a3 z, a4⟩
  obtain ⟨h1, h2⟩ := h.map_set (s2 := ⟨s.mine, { s.l with inn := putF s.l.inn j x.b, puts := s.l.puts + 1 }⟩) hm (own_exactV hown) rfl hok rfl hz hn2 hs2
  exact ⟨w', _, hrun, h1, hm, h2⟩
/-- One that was there, taken away. -/
theorem SesX.del (h : SesX w F p s A c vs bm D) {j : Int} (hj : -9223372036854775808 ≤ j ∧ j ≤ 9223372036854775807) (hh : Maps.has D (.int .i64 j) = true)
    (hok : Ok ⟨s.mine, { s.l with inn := fun i => if i = j then none else s.l.inn i }⟩) :
    ∃ w' D', (∀ ty, (Builtin.delete_ #[54, 3] ty #[.map (some bm), .int .i64 j]).run Try.prog w = .ok (.tuple #[]) w') ∧ SesX w' F p ⟨s.mine, { s.l with inn := fun i => if i = j then none else s.l.inn i }⟩ A c vs bm D' ∧ Maps.size D' + 1 = Maps.size D ∧ Moved (fun k => k = bm) w w' ∧ Ku w w' := by
  obtain ⟨w', hrun, hown, hturn⟩ := h.map.drop law_int Try.underlying54 (key_int hj) 0
  have hm : Moved (fun k => k = bm) w w' := Moved.grown (p := fun k => k = bm) (Moved.refl _ w) hturn.grown (fun k _ e => (Option.some.inj e).symm)
  have hT := h.map.tidy law_int
  have hz := Maps.size_del (k := .int .i64 j) hT
  rw [hh] at hz
  have hz1 : Maps.size (D.del (.int .i64 j)) + 1 = Maps.size D := by simpa using hz
  have hn2 : ∀ i, (if i = j then none else s.l.inn i) = none → Maps.has (D.del (.int .i64 j)) (.int .i64 i) = false := fun i hi' => by
    by_cases e : i = j
    · subst e; exact Maps.has_del_same
    · rw [if_neg e] at hi'
      rw [Maps.has_del_other (key_ne e)]
      exact h.non i hi'
  have hs2 : ∀ i b, (if i = j then none else s.l.inn i) = some b → ∃ y : SlV, y.b = b ∧ Maps.has (D.del (.int .i64 j)) (.int .i64 i) = true ∧ (∀ z, (D.del (.int .i64 j)).atKey (.int .i64 i) z = .held y.val) ∧ ByU w y.A b := fun i b hi' => by
    by_cases e : i = j
    · rw [if_pos e] at hi'; cases hi'
    · rw [if_neg e] at hi'
      obtain ⟨y, a1, a2, a3, a4⟩ := h.som i b hi'
      exact ⟨y, a1, by rw [Maps.has_del_other (key_ne e)]; exact a2, fun z => by rw [Maps.atKey_del_other (key_ne e)]; exact a3 z, a4⟩
  obtain ⟨h1, h2⟩ := h.map_set (s2 := ⟨s.mine, { s.l with inn := fun i => if i = j then none else s.l.inn i }⟩) hm (own_exactV hown) rfl hok rfl (by have := h.size; show _ ≤ s.l.puts; omega) hn2 hs2
  exact ⟨w', _, fun ty => hrun, h1, hz1, hm, h2⟩
/-- What take's loop holds. -/
structure TkRel (F : Nat → Prop) (p : Nat) (s : Ss) (f : Int → Option Bytes) (A : Option Addr) (c : Nat) (vs : List SlV) (bm : Nat) (w : World) (k : Nat) (Ab : Option Addr) (cb : Nat) (wr : World) : Prop where
  bs : ∃ bs : List SlV, bs.length = k ∧ wr.ownsRow w.heap.size 27 1 (.slice Ab k cb) k (bs.map SlV.val) ∧ (∀ x ∈ bs, ByU wr x.A x.b) ∧ ∀ (j : Nat) x, (bs.map (·.b))[j]? = some x → f (s.l.wanted + j) = some x
  ses : ∃ D, SesX wr F p ⟨s.mine, tkL s.l f (s.l.puts + 1) k⟩ A c vs bm D ∧ Maps.size D + k ≤ s.l.puts + 1
  moved : Moved F w wr
  ku : Ku w wr
def TakePost (F : Nat → Prop) (p : Nat) (s : Ss) (q : Int) (b : Bytes) (w : World) (e : Ending) (w' : World) : Prop :=
  ∃ (Ab : Option Addr) (cb : Nat) (bs : List SlV), e = .returned (.slice Ab (takeS s.l q b).1.length cb) ∧ bs.map SlV.b = (takeS s.l q b).1 ∧ w'.ownsRow w.heap.size 27 1 (.slice Ab (takeS s.l q b).1.length cb) (takeS s.l q b).1.length (bs.map SlV.val) ∧ (∀ x ∈ bs, ByU w' x.A x.b) ∧
    SE F w' p ⟨s.mine, (takeS s.l q b).2⟩ ∧ Moved F w w' ∧ Ku w w'
theorem TkRel.post {f : Int → Option Bytes} {k cb : Nat} {Ab : Option Addr} {wr : World} {b : Bytes} {q : Int} (h : TkRel F p s f A c vs bm w k Ab cb wr) (hf : f = putF s.l.inn q b) (h1 : ¬ q < s.l.wanted) (h2 : ¬ s.l.wanted + 64 ≤ q) (he : f (s.l.wanted + k) = none) : TakePost F p s q b w (.returned (.slice Ab k cb)) wr := by
  obtain ⟨bs, b1, b2, b3, b4⟩ := h.bs
  obtain ⟨D, d1, d2⟩ := h.ses
  subst hf
  have hl : (bs.map (·.b)).length = k := by rw [List.length_map, b1]
  have e := takeS_in (bs := bs.map (·.b)) h1 h2 (by omega) b4 (by rw [hl]; exact he)
  refine ⟨Ab, cb, bs, ?_, ?_, ?_, b3, ?_, h.moved, h.ku⟩
  · rw [e, hl]
  · rw [e]
  · rw [e, hl]; exact b2
  · rw [e, hl]; exact d1.se
theorem SesX.puts (h : SesX w F p s A c vs bm D) (hok : Ok s2) (hc : sesC s2 A vs.length c bm = sesC s A vs.length c bm) (ho : s2.l.out = s.l.out) (hi : s2.l.inn = s.l.inn) (hp : s.l.puts ≤ s2.l.puts) : SesX w F p s2 A c vs bm D :=
  ⟨hok, by rw [hc]; exact h.self, h.row, h.outs.trans ho.symm, h.bod, h.map, Nat.le_trans h.size hp, (fun j hj => h.non j (by rw [← hi]; exact hj)), (fun j b hj => h.som j b (by rw [← hi]; exact hj)), h.inF⟩
theorem TkRel.later {f : Int → Option Bytes} {k cb : Nat} {Ab : Option Addr} {wr w2 : World} (h : TkRel F p s f A c vs bm w k Ab cb wr) (hb : Below wr.heap.size wr w2) : TkRel F p s f A c vs bm w k Ab cb w2 := by
  obtain ⟨bs, b1, b2, b3, b4⟩ := h.bs
  obtain ⟨D, d1, d2⟩ := h.ses
  exact ⟨⟨bs, b1, own_moved (p := fun _ => False) b2 (Below.movedNew hb) (fun _ _ h => h), fun x hx => (b3 x hx).later hb, b4⟩, ⟨D, d1.later hb, d2⟩, h.moved.trans (q := fun _ => False) (Below.movedNew hb) (fun _ _ h => h.elim), h.ku.trans (Below.ku hb)⟩
/-- One more body. -/
structure TkMid (F : Nat → Prop) (p : Nat) (s : Ss) (f : Int → Option Bytes) (A : Option Addr) (c : Nat) (vs : List SlV) (bm : Nat) (D : DataW Value) (w : World) (k : Nat) (Ab : Option Addr) (cb : Nat) (wr : World) : Prop where
  bs : ∃ bs : List SlV, bs.length = k + 1 ∧ wr.ownsRow w.heap.size 27 1 (.slice Ab (k + 1) cb) (k + 1) (bs.map SlV.val) ∧ (∀ x ∈ bs, ByU wr x.A x.b) ∧ ∀ (j : Nat) x, (bs.map (·.b))[j]? = some x → f (s.l.wanted + j) = some x
  ses : SesX wr F p ⟨s.mine, tkL s.l f (s.l.puts + 1) k⟩ A c vs bm D ∧ Maps.size D + k ≤ s.l.puts + 1
  moved : Moved F w wr
  ku : Ku w wr
theorem grown_ku {b k n : Nat} {e : TypeId} {v : Value} {xs : List Value} (h : w.ownsRow b e k v n xs) (he : e ≠ 5 ∧ e ≠ 31) (hg : w.grownBy w' v.ownBlock) : Ku w w' := fun T j cs z hT hj => by
  rw [hg.block j (heap_lt hj) (fun e2 => ?_)]
  · exact hj
  · rcases h.2 with ⟨h0, _⟩ | ⟨g, cap, cur, h0, _, hg2, _⟩
    · rw [h0] at e2; cases e2
    · rw [h0] at e2
      have e2 : j = g := Option.some.inj e2
      subst e2
      rw [hj] at hg2; injection hg2 with hg2; injection hg2 with _ hg2 _; exact hT.elim (fun e => he.1 (hg2.symm.trans e)) (fun e => he.2 (hg2.symm.trans e))
theorem tk_mid {f : Int → Option Bytes} {k cb c3 : Nat} {Ab A3 : Option Addr} {W0 w3 : World} {bs : List SlV} {x : SlV} (hF : ∀ k, F k → k < w.heap.size) (b1 : bs.length = k) (b2 : W0.ownsRow w.heap.size 27 1 (.slice Ab k cb) k (bs.map SlV.val)) (b3 : ∀ x ∈ bs, ByU W0 x.A x.b) (b4 : ∀ (j : Nat) x, (bs.map (·.b))[j]? = some x → f (s.l.wanted + j) = some x)
    (d1 : SesX W0 F p ⟨s.mine, tkL s.l f (s.l.puts + 1) k⟩ A c vs bm D) (d2 : Maps.size D + k ≤ s.l.puts + 1) (hm : Moved F w W0) (hk : Ku w W0) (hx : ByU W0 x.A x.b) (hfx : f (s.l.wanted + k) = some x.b)
    (hown : w3.ownsRow w.heap.size 27 1 (.slice A3 (k + 1) c3) (k + 1) (bs.map SlV.val ++ [x.val])) (hg : W0.grownBy w3 (Value.slice Ab k cb).ownBlock) : TkMid F p s f A c vs bm D w k A3 c3 w3 := by
  have hu := grown_ku b2 (by decide) hg
  have hm3 : Moved (fun j => (Value.slice Ab k cb).ownBlock = some j) W0 w3 := Moved.grown (p := fun j => (Value.slice Ab k cb).ownBlock = some j) (Moved.refl _ W0) hg (fun j _ e => e)
  refine ⟨⟨bs ++ [x], by simp [b1], by rw [List.map_append]; exact hown, fun y hy => ?_, fun j y hj => ?_⟩, ⟨d1.kept hm3 (fun j hj e => by have := (b2.lt j e).1; have := hF j hj; omega) hu, d2⟩, ?_, hk.trans hu⟩
  · rcases List.mem_append.1 hy with hy | hy
    · exact (b3 y hy).kept hu
    · rw [List.mem_singleton.1 hy]; exact hx.kept hu
  · rw [List.map_append] at hj
    have hl : (bs.map (·.b)).length = k := by rw [List.length_map, b1]
    by_cases hjk : j < k
    · rw [List.getElem?_append_left (by omega)] at hj; exact b4 j y hj
    · have hlt := (List.getElem?_eq_some_iff.1 hj).1
      simp at hlt
      obtain rfl : j = k := by omega
      rw [List.getElem?_append_right (by omega), hl, Nat.sub_self] at hj
      have : x.b = y := by simpa using hj
      rw [← this]; exact hfx
  · exact hm.trans hm3 (fun j hj e => by have := (b2.lt j e).1; omega)
theorem tk_end {f : Int → Option Bytes} {k c3 : Nat} {A3 : Option Addr} {w3 w4 : World} {b : Bytes} {D4 : DataW Value} (hF : ∀ k, F k → k < w.heap.size) (h : TkMid F p s f A c vs bm D w k A3 c3 w3) (hfx : f (s.l.wanted + k) = some b) (hok : Ok ⟨s.mine, tkL s.l f (s.l.puts + 1) (k + 1)⟩)
    (h4 : SesX w4 F p ⟨s.mine, { tkL s.l f (s.l.puts + 1) k with inn := fun i => if i = s.l.wanted + (k : Int) then none else (tkL s.l f (s.l.puts + 1) k).inn i }⟩ A c vs bm D4) (hz : Maps.size D4 + 1 = Maps.size D) (hm4 : Moved (fun j => j = bm) w3 w4) (hk4 : Ku w3 w4) :
    TkRel F p s f A c vs bm w (k + 1) A3 c3 (w4.setCell ⟨p, 9, none⟩ (.int .i64 (s.l.wanted + (k : Int) + 1))) := by
  obtain ⟨bs, b1, b2, b3, b4⟩ := h.bs
  obtain ⟨d1, d2⟩ := h.ses
  have hb2 : ∀ j, (Value.slice A3 (k + 1) c3).ownBlock = some j → w.heap.size ≤ j := fun j hj => (b2.lt j hj).1
  have hbm := hF _ h4.inF.2.1
  have hpl := hF _ h4.inF.1
  have hmp : Moved (fun j => j = p) w4 (w4.setCell ⟨p, 9, none⟩ (.int .i64 (s.l.wanted + (k : Int) + 1))) := (Moved.refl (fun j => j = p) w4).setCell (.inr rfl) _
  have hk5 := h4.ku_set hmp
  have h5 : SesX (w4.setCell ⟨p, 9, none⟩ (.int .i64 (s.l.wanted + (k : Int) + 1))) F p ⟨s.mine, tkL s.l f (s.l.puts + 1) (k + 1)⟩ A c vs bm D4 := by
    refine h4.set hmp ?_ hok rfl ?_ rfl
    · rw [heap_set h4.self 9]
      have : s.l.wanted + (k : Int) + 1 = s.l.wanted + ((k + 1 : Nat) : Int) := by omega
      rw [this]; rfl
    · show without f s.l.wanted (k + 1) = fun i => if i = s.l.wanted + (k : Int) then none else without f s.l.wanted k i
      rw [without_succ]
  refine ⟨⟨bs, b1, own_moved (own_moved b2 hm4 (fun j hj e => by have := hb2 j hj; omega)) hmp (fun j hj e => by have := hb2 j hj; omega), fun x hx => ((b3 x hx).kept hk4).kept hk5, b4⟩, ⟨D4, h5, by omega⟩, ?_, (h.ku.trans hk4).trans hk5⟩
  exact (h.moved.trans hm4 (fun j _ e => e ▸ h4.inF.2.1)).trans hmp (fun j _ e => e ▸ h4.inF.1)
set_option maxHeartbeats 4000000 in
set_option maxRecDepth 20000 in
theorem take_any (h : SesX w F p s A c vs bm D) (hF : ∀ k, F k → k < w.heap.size) (sq : Int) (b : Bytes) (A0 : Option Addr) (c0 : Nat) (hy : Byt w A0 b) (hb : b.length ≤ 32768) (hq : 0 ≤ sq ∧ sq ≤ 2147483647) (hp : s.l.puts < 1000000) :
    Calls Try.prog 23 #[.pointer (some ⟨p, 1, none⟩), .int .i64 sq, .slice A0 b.length c0] w (TakePost F p s sq b w) := by
  obtain ⟨W1, hW1⟩ : ∃ W1, W1 = w.setCell ⟨p, 4, none⟩ (.bool true) := ⟨_, rfl⟩
  have hM1 : Moved (fun k => k = p) w W1 := by rw [hW1]; exact (Moved.refl (fun k => k = p) w).setCell (.inr rfl) _
  have hX1 : SesX W1 F p ⟨s.mine, { s.l with ackDue := true }⟩ A c vs bm D := h.set hM1 (by rw [hW1]; exact heap_set h.self 4 (.bool true)) (ok_ack (m := s.mine) (l := s.l) h.ok true) rfl rfl rfl
  have HK1 := Lib.hid (h.ku_set hM1)
  have HM1 : Hid (Moved F w W1) := Lib.hid (hM1.weaken (fun k _ e => e ▸ h.inF.1))
  have HX := Lib.hid h
  have HX1 := Lib.hid hX1
  have HW1 := Lib.hid hW1
  have HY1 : Hid (Byt W1 A0 b) := Lib.hid (by rw [hW1]; intro i hi; obtain ⟨g, o, e, hc⟩ := hy i hi; exact ⟨g, o, e, (World.cell?_setCell_other w _ _ _ (fun e2 => by rw [← e2, h.c4] at hc; cases hc)).trans hc⟩)
  have c4 := h.c4
  have f4 := h.free 4
  have e9 := hX1.c9
  have e10 := hX1.c10
  have hw := h.ok.wanted
  obtain ⟨wn, hwn⟩ : ∃ wn, wn = s.l.wanted := ⟨_, rfl⟩
  have HWn := Lib.hid hwn
  have e9' : W1.cell? ⟨p, 9, none⟩ = some (.int .i64 wn) := by rw [hwn]; exact e9
  have k64 : IntKind.i64.wrap (wn + 64) = wn + 64 := by rw [IntKind.wrap_i64]; omega
  rw [← hwn] at hw
  clear e9 hwn hM1 hX1 hW1 hy
  by_cases h1 : sq < wn
  · have HE : Hid (takeS s.l sq b = ([], { s.l with ackDue := true })) := Lib.hid (takeS_out b (.inl (by rw [← HWn.out]; exact h1)))
    clear h hb hp
    go_enter Try.func23, Try.ntmps23
    go_wp2_with (rw [← HW1.out])
    go_ret
    refine ⟨none, 0, [], ?_, ?_, ?_, (fun x hx => (by cases hx)), ?_, HM1.out, HK1.out⟩
    · rw [HE.out]; rfl
    · rw [HE.out]; rfl
    · rw [HE.out]; exact World.ownsRow_nil _ _ _ _
    · rw [HE.out]; exact HX1.out.se
  by_cases h2 : wn + 64 ≤ sq
  · have HE : Hid (takeS s.l sq b = ([], { s.l with ackDue := true })) := Lib.hid (takeS_out b (.inr (by rw [← HWn.out]; exact h2)))
    clear h hb hp
    go_enter Try.func23, Try.ntmps23
    go_wp2_with (rw [← HW1.out])
    go_ret
    refine ⟨none, 0, [], ?_, ?_, ?_, (fun x hx => (by cases hx)), ?_, HM1.out, HK1.out⟩
    · rw [HE.out]; rfl
    · rw [HE.out]; rfl
    · rw [HE.out]; exact World.ownsRow_nil _ _ _ _
    · rw [HE.out]; exact HX1.out.se
  have H1 := Lib.hid h1
  have H2 := Lib.hid h2
  obtain ⟨i0, hinfo, hz0, hzs, hz2⟩ := info_parts (P := Try.prog) (e := 27) (z := .slice none 0 0) (size := 1) (bytes := 24) (by kernel_rfl)
  have HP := Lib.hid hp
  have HFt := Lib.hid hF
  have HBl := Lib.hid hb
  have HOk0 := Lib.hid (ok_tk0 (q := sq) (b := b) (l := s.l) (m := s.mine) h.ok (s.l.puts + 1) (by rw [← HWn.out]; omega) hq.2 hb)
  cases hin : s.l.inn sq with
  | some x0 =>
    obtain ⟨x, -, -, -, hrun⟩ := (HX1.out.look (j := sq) (by omega)).2 x0 hin
    have HFq : Hid (putF s.l.inn sq b = s.l.inn) := Lib.hid (putF_there b hin)
    have hT0 : TkRel F p s (putF s.l.inn sq b) A c vs bm w 0 none 0 W1 := by
      refine ⟨⟨[], rfl, World.ownsRow_nil _ _ _ _, (fun x hx => (by cases hx)), (fun j x hj => (by cases hj))⟩, ⟨D, HX1.out.puts HOk0.out ?_ rfl ?_ (Nat.le_succ _), ?_⟩, HM1.out, HK1.out⟩
      · unfold sesC linkC tkL; simp
      · show without (putF s.l.inn sq b) s.l.wanted 0 = _; rw [without_zero, HFq.out]
      · have := h.size; omega
    have HT0 := Lib.hid hT0
    obtain ⟨v, hv⟩ : ∃ v, v = x.val := ⟨_, rfl⟩
    rw [← hv] at hrun
    clear h hb hp hin hv hF hT0
    go_enter Try.func23, Try.ntmps23
    go_wp2_with (rw [← HW1.out])
    go_loopw [9] (fun v wr => ∃ (k : Nat) (Ab : Option Addr) (cb : Nat), v = .slice Ab k cb ∧ Hid (TkRel F p s (putF s.l.inn sq b) A c vs bm w k Ab cb wr)) (fun v _ => match v with | .slice _ n _ => s.l.puts + 2 - n | _ => 0)
    case atStart => exact ⟨0, none, 0, rfl, HT0⟩
    case round =>
      obtain ⟨k, Ab, cb, rfl, HR⟩ := hrel
      obtain ⟨D2, d1, d2⟩ := HR.out.ses
      have HD1 := Lib.hid d1
      have HD2 := Lib.hid d2
      have hwk := d1.ok.wanted
      have hwk2 : 1 ≤ wn + (k : Int) ∧ wn + (k : Int) ≤ 2147483648 := by rw [HWn.out]; exact hwk
      have g10 : wr.cell? ⟨p, 10, none⟩ = some (.map (some bm)) := d1.c10
      have g9 : wr.cell? ⟨p, 9, none⟩ = some (.int .i64 (wn + (k : Int))) := by rw [HWn.out]; exact d1.c9
      have HAt : Hid (without (putF s.l.inn sq b) s.l.wanted k (wn + k) = putF s.l.inn sq b (wn + k)) := Lib.hid (by rw [HWn.out]; exact without_at _ _ _)
      have lk := (d1.later (Below.refl wr.heap.size wr).drew).look (j := wn + (k : Int)) (by omega)
      clear d1 d2 hwk
      cases hfk : putF s.l.inn sq b (wn + (k : Int)) with
      | none =>
        have hlook := lk.1 (HAt.out.trans hfk)
        have HFk := Lib.hid hfk
        clear lk hfk
        go_wp2_with fail
        refine wp_region_held_drew (S := (fun V => V.cell? ⟨p, 10, none⟩ = some (.map (some bm)) ∧ V.cell? ⟨p, 9, none⟩ = some (.int .i64 (wn + (k : Int))) ∧ (Instr.lookup 54 (.map (some bm)) (.int .i64 (wn + (k : Int))) true).run Try.prog V = .ok (.tuple #[.slice none 0 0, .bool false]) V)) (by kernel_rfl) ⟨g10, g9, hlook⟩ (fun hHeld => ?_)
        refine wpAnyH_take (i := 0) (v := ?vv7) rfl (by kernel_rfl) (by kernel_rfl) (by kernel_rfl) (fun _ _ _ h => h) (Or.inl ⟨by rfl, ?hy7⟩) hHeld ?rr7
        case hy7 => (intro w' hSw; obtain ⟨s0, s1, s2⟩ := hSw; go_simp; try with_reducible rfl)
        try simp only [Act.put, List.setIfInBounds_toArray, List.set_cons_zero, List.set_cons_succ, List.getElem_toArray, List.getElem_cons_succ, List.getElem_cons_zero]
        refine wpAnyH_take (i := 1) (v := ?vv8) rfl (by kernel_rfl) (by kernel_rfl) (by kernel_rfl) (fun _ _ _ h => h) (Or.inl ⟨by rfl, ?hy8⟩) hHeld ?rr8
        case hy8 => (intro w' hSw; obtain ⟨s0, s1, s2⟩ := hSw; go_simp; try with_reducible rfl)
        try simp only [Act.put, List.setIfInBounds_toArray, List.set_cons_zero, List.set_cons_succ, List.getElem_toArray, List.getElem_cons_succ, List.getElem_cons_zero]
        refine wpAnyH_take (i := 2) (v := ?vv9) rfl (by kernel_rfl) (by kernel_rfl) (by kernel_rfl) (fun _ _ _ h => h) (Or.inl ⟨by rfl, ?hy9⟩) hHeld ?rr9
        case hy9 => (intro w' hSw; obtain ⟨s0, s1, s2⟩ := hSw; go_simp; try with_reducible rfl)
        try simp only [Act.put, List.setIfInBounds_toArray, List.set_cons_zero, List.set_cons_succ, List.getElem_toArray, List.getElem_cons_succ, List.getElem_cons_zero]
        refine wpAnyH_take (i := 3) (v := ?vv10) rfl (by kernel_rfl) (by kernel_rfl) (by kernel_rfl) (fun _ _ _ h => h) (Or.inl ⟨by rfl, ?hy10⟩) hHeld ?rr10
        case hy10 => (intro w' hSw; obtain ⟨s0, s1, s2⟩ := hSw; go_simp; try with_reducible rfl)
        try simp only [Act.put, List.setIfInBounds_toArray, List.set_cons_zero, List.set_cons_succ, List.getElem_toArray, List.getElem_cons_succ, List.getElem_cons_zero]
        refine wpAnyH_take (i := 4) (v := ?vv11) rfl (by kernel_rfl) (by kernel_rfl) (by kernel_rfl) (fun _ _ _ h => h) (Or.inl ⟨by rfl, ?hy11⟩) hHeld ?rr11
        case hy11 => (intro w' hSw; obtain ⟨s0, s1, s2⟩ := hSw; go_simp; try with_reducible rfl)
        try simp only [Act.put, List.setIfInBounds_toArray, List.set_cons_zero, List.set_cons_succ, List.getElem_toArray, List.getElem_cons_succ, List.getElem_cons_zero]
        refine wpAnyH_take (i := 5) (v := ?vv12) rfl (by kernel_rfl) (by kernel_rfl) (by kernel_rfl) (fun _ _ _ h => h) (Or.inl ⟨by rfl, ?hy12⟩) hHeld ?rr12
        case hy12 => (intro w' hSw; obtain ⟨s0, s1, s2⟩ := hSw; go_simp; try with_reducible rfl)
        try simp only [Act.put, List.setIfInBounds_toArray, List.set_cons_zero, List.set_cons_succ, List.getElem_toArray, List.getElem_cons_succ, List.getElem_cons_zero]
        refine wpAnyH_take (i := 6) (v := ?vv13) rfl (by kernel_rfl) (by kernel_rfl) (by kernel_rfl) (fun _ _ _ h => h) (Or.inl ⟨by rfl, ?hy13⟩) hHeld ?rr13
        case hy13 => (intro w' hSw; obtain ⟨s0, s1, s2⟩ := hSw; go_simp; try with_reducible rfl)
        try simp only [Act.put, List.setIfInBounds_toArray, List.set_cons_zero, List.set_cons_succ, List.getElem_toArray, List.getElem_cons_succ, List.getElem_cons_zero]
        refine wpAnyH_take (i := 7) (v := ?vv14) rfl (by kernel_rfl) (by kernel_rfl) (by kernel_rfl) (fun _ _ _ h => h) (Or.inl ⟨by rfl, ?hy14⟩) hHeld ?rr14
        case hy14 => (intro w' hSw; obtain ⟨s0, s1, s2⟩ := hSw; go_simp; try with_reducible rfl)
        try simp only [Act.put, List.setIfInBounds_toArray, List.set_cons_zero, List.set_cons_succ, List.getElem_toArray, List.getElem_cons_succ, List.getElem_cons_zero]
        refine wpAnyH_take (i := 8) (v := ?vv15) rfl (by kernel_rfl) (by kernel_rfl) (by kernel_rfl) (fun _ _ _ h => h) (Or.inl ⟨by rfl, ?hy15⟩) hHeld ?rr15
        case hy15 => (intro w' hSw; obtain ⟨s0, s1, s2⟩ := hSw; go_simp; try with_reducible rfl)
        try simp only [Act.put, List.setIfInBounds_toArray, List.set_cons_zero, List.set_cons_succ, List.getElem_toArray, List.getElem_cons_succ, List.getElem_cons_zero]
        refine wpAnyH_take (i := 9) (v := ?vv16) rfl (by kernel_rfl) (by kernel_rfl) (by kernel_rfl) (fun _ _ _ h => h) (Or.inl ⟨by rfl, ?hy16⟩) hHeld ?rr16
        case hy16 => (intro w' hSw; obtain ⟨s0, s1, s2⟩ := hSw; go_simp; try with_reducible rfl)
        try simp only [Act.put, List.setIfInBounds_toArray, List.set_cons_zero, List.set_cons_succ, List.getElem_toArray, List.getElem_cons_succ, List.getElem_cons_zero]
        refine wpAnyH_take (i := 10) (v := ?vv17) rfl (by kernel_rfl) (by kernel_rfl) (by kernel_rfl) (fun _ _ _ h => h) (Or.inl ⟨by rfl, ?hy17⟩) hHeld ?rr17
        case hy17 => (intro w' hSw; obtain ⟨s0, s1, s2⟩ := hSw; go_simp; try with_reducible rfl)
        try simp only [Act.put, List.setIfInBounds_toArray, List.set_cons_zero, List.set_cons_succ, List.getElem_toArray, List.getElem_cons_succ, List.getElem_cons_zero]
        refine wpAnyH_take (i := 11) (v := ?vv18) rfl (by kernel_rfl) (by kernel_rfl) (by kernel_rfl) (fun _ _ _ h => h) (Or.inl ⟨by rfl, ?hy18⟩) hHeld ?rr18
        case hy18 => (intro w' hSw; obtain ⟨s0, s1, s2⟩ := hSw; go_simp; try with_reducible rfl)
        try simp only [Act.put, List.setIfInBounds_toArray, List.set_cons_zero, List.set_cons_succ, List.getElem_toArray, List.getElem_cons_succ, List.getElem_cons_zero]
        refine wpAnyH_take (i := 12) (v := ?vv19) rfl (by kernel_rfl) (by kernel_rfl) (by kernel_rfl) (fun _ _ _ h => h) (Or.inl ⟨by rfl, ?hy19⟩) hHeld ?rr19
        case hy19 => (intro w' hSw; obtain ⟨s0, s1, s2⟩ := hSw; go_simp; try with_reducible rfl)
        try simp only [Act.put, List.setIfInBounds_toArray, List.set_cons_zero, List.set_cons_succ, List.getElem_toArray, List.getElem_cons_succ, List.getElem_cons_zero]
        refine wpAnyH_take (i := 13) (v := ?vv20) rfl (by kernel_rfl) (by kernel_rfl) (by kernel_rfl) (fun _ _ _ h => h) (Or.inl ⟨by rfl, ?hy20⟩) hHeld ?rr20
        case hy20 => (intro w' hSw; obtain ⟨s0, s1, s2⟩ := hSw; go_simp; try with_reducible rfl)
        try simp only [Act.put, List.setIfInBounds_toArray, List.set_cons_zero, List.set_cons_succ, List.getElem_toArray, List.getElem_cons_succ, List.getElem_cons_zero]
        refine wpAnyH_done (by kernel_rfl) ?_ _
        clear hHeld
        go_wp2
        go_ret
        refine (HR.out.later (Below.refl _ _).drew).post rfl (by rw [← HWn.out]; have := H1.out; omega) (by rw [← HWn.out]; have := H2.out; omega) (by rw [← HWn.out]; exact HFk.out)
      | some b0 =>
        obtain ⟨x, hxb, hxh, hxu, hlook⟩ := lk.2 b0 (HAt.out.trans hfk)
        have HFk := Lib.hid hfk
        have HXu := Lib.hid hxu
        have HXb := Lib.hid hxb
        have HXh := Lib.hid hxh
        obtain ⟨xb, xA, xc⟩ := x
        obtain ⟨nx, hnx⟩ : ∃ nx, nx = xb.length := ⟨_, rfl⟩
        have HV : Hid (Value.slice xA nx xc = SlV.val ⟨xb, xA, xc⟩) := Lib.hid (by rw [hnx]; rfl)
        rw [← HV.out] at hlook
        clear lk hfk hxb hxh hxu hnx
        go_wp2_with fail
        refine wp_region_held_drew (S := (fun V => V.cell? ⟨p, 10, none⟩ = some (.map (some bm)) ∧ V.cell? ⟨p, 9, none⟩ = some (.int .i64 (wn + (k : Int))) ∧ (Instr.lookup 54 (.map (some bm)) (.int .i64 (wn + (k : Int))) true).run Try.prog V = .ok (.tuple #[.slice xA nx xc, .bool true]) V)) (by kernel_rfl) ⟨g10, g9, hlook⟩ (fun hHeld => ?_)
        refine wpAnyH_take (i := 0) (v := ?vv21) rfl (by kernel_rfl) (by kernel_rfl) (by kernel_rfl) (fun _ _ _ h => h) (Or.inl ⟨by rfl, ?hy21⟩) hHeld ?rr21
        case hy21 => (intro w' hSw; obtain ⟨s0, s1, s2⟩ := hSw; go_simp; try with_reducible rfl)
        try simp only [Act.put, List.setIfInBounds_toArray, List.set_cons_zero, List.set_cons_succ, List.getElem_toArray, List.getElem_cons_succ, List.getElem_cons_zero]
        refine wpAnyH_take (i := 1) (v := ?vv22) rfl (by kernel_rfl) (by kernel_rfl) (by kernel_rfl) (fun _ _ _ h => h) (Or.inl ⟨by rfl, ?hy22⟩) hHeld ?rr22
        case hy22 => (intro w' hSw; obtain ⟨s0, s1, s2⟩ := hSw; go_simp; try with_reducible rfl)
        try simp only [Act.put, List.setIfInBounds_toArray, List.set_cons_zero, List.set_cons_succ, List.getElem_toArray, List.getElem_cons_succ, List.getElem_cons_zero]
        refine wpAnyH_take (i := 2) (v := ?vv23) rfl (by kernel_rfl) (by kernel_rfl) (by kernel_rfl) (fun _ _ _ h => h) (Or.inl ⟨by rfl, ?hy23⟩) hHeld ?rr23
        case hy23 => (intro w' hSw; obtain ⟨s0, s1, s2⟩ := hSw; go_simp; try with_reducible rfl)
        try simp only [Act.put, List.setIfInBounds_toArray, List.set_cons_zero, List.set_cons_succ, List.getElem_toArray, List.getElem_cons_succ, List.getElem_cons_zero]
        refine wpAnyH_take (i := 3) (v := ?vv24) rfl (by kernel_rfl) (by kernel_rfl) (by kernel_rfl) (fun _ _ _ h => h) (Or.inl ⟨by rfl, ?hy24⟩) hHeld ?rr24
        case hy24 => (intro w' hSw; obtain ⟨s0, s1, s2⟩ := hSw; go_simp; try with_reducible rfl)
        try simp only [Act.put, List.setIfInBounds_toArray, List.set_cons_zero, List.set_cons_succ, List.getElem_toArray, List.getElem_cons_succ, List.getElem_cons_zero]
        refine wpAnyH_take (i := 4) (v := ?vv25) rfl (by kernel_rfl) (by kernel_rfl) (by kernel_rfl) (fun _ _ _ h => h) (Or.inl ⟨by rfl, ?hy25⟩) hHeld ?rr25
        case hy25 => (intro w' hSw; obtain ⟨s0, s1, s2⟩ := hSw; go_simp; try with_reducible rfl)
        try simp only [Act.put, List.setIfInBounds_toArray, List.set_cons_zero, List.set_cons_succ, List.getElem_toArray, List.getElem_cons_succ, List.getElem_cons_zero]
        refine wpAnyH_take (i := 5) (v := ?vv26) rfl (by kernel_rfl) (by kernel_rfl) (by kernel_rfl) (fun _ _ _ h => h) (Or.inl ⟨by rfl, ?hy26⟩) hHeld ?rr26
        case hy26 => (intro w' hSw; obtain ⟨s0, s1, s2⟩ := hSw; go_simp; try with_reducible rfl)
        try simp only [Act.put, List.setIfInBounds_toArray, List.set_cons_zero, List.set_cons_succ, List.getElem_toArray, List.getElem_cons_succ, List.getElem_cons_zero]
        refine wpAnyH_take (i := 6) (v := ?vv27) rfl (by kernel_rfl) (by kernel_rfl) (by kernel_rfl) (fun _ _ _ h => h) (Or.inl ⟨by rfl, ?hy27⟩) hHeld ?rr27
        case hy27 => (intro w' hSw; obtain ⟨s0, s1, s2⟩ := hSw; go_simp; try with_reducible rfl)
        try simp only [Act.put, List.setIfInBounds_toArray, List.set_cons_zero, List.set_cons_succ, List.getElem_toArray, List.getElem_cons_succ, List.getElem_cons_zero]
        refine wpAnyH_take (i := 7) (v := ?vv28) rfl (by kernel_rfl) (by kernel_rfl) (by kernel_rfl) (fun _ _ _ h => h) (Or.inl ⟨by rfl, ?hy28⟩) hHeld ?rr28
        case hy28 => (intro w' hSw; obtain ⟨s0, s1, s2⟩ := hSw; go_simp; try with_reducible rfl)
        try simp only [Act.put, List.setIfInBounds_toArray, List.set_cons_zero, List.set_cons_succ, List.getElem_toArray, List.getElem_cons_succ, List.getElem_cons_zero]
        refine wpAnyH_take (i := 8) (v := ?vv29) rfl (by kernel_rfl) (by kernel_rfl) (by kernel_rfl) (fun _ _ _ h => h) (Or.inl ⟨by rfl, ?hy29⟩) hHeld ?rr29
        case hy29 => (intro w' hSw; obtain ⟨s0, s1, s2⟩ := hSw; go_simp; try with_reducible rfl)
        try simp only [Act.put, List.setIfInBounds_toArray, List.set_cons_zero, List.set_cons_succ, List.getElem_toArray, List.getElem_cons_succ, List.getElem_cons_zero]
        refine wpAnyH_take (i := 9) (v := ?vv30) rfl (by kernel_rfl) (by kernel_rfl) (by kernel_rfl) (fun _ _ _ h => h) (Or.inl ⟨by rfl, ?hy30⟩) hHeld ?rr30
        case hy30 => (intro w' hSw; obtain ⟨s0, s1, s2⟩ := hSw; go_simp; try with_reducible rfl)
        try simp only [Act.put, List.setIfInBounds_toArray, List.set_cons_zero, List.set_cons_succ, List.getElem_toArray, List.getElem_cons_succ, List.getElem_cons_zero]
        refine wpAnyH_take (i := 10) (v := ?vv31) rfl (by kernel_rfl) (by kernel_rfl) (by kernel_rfl) (fun _ _ _ h => h) (Or.inl ⟨by rfl, ?hy31⟩) hHeld ?rr31
        case hy31 => (intro w' hSw; obtain ⟨s0, s1, s2⟩ := hSw; go_simp; try with_reducible rfl)
        try simp only [Act.put, List.setIfInBounds_toArray, List.set_cons_zero, List.set_cons_succ, List.getElem_toArray, List.getElem_cons_succ, List.getElem_cons_zero]
        refine wpAnyH_take (i := 11) (v := ?vv32) rfl (by kernel_rfl) (by kernel_rfl) (by kernel_rfl) (fun _ _ _ h => h) (Or.inl ⟨by rfl, ?hy32⟩) hHeld ?rr32
        case hy32 => (intro w' hSw; obtain ⟨s0, s1, s2⟩ := hSw; go_simp; try with_reducible rfl)
        try simp only [Act.put, List.setIfInBounds_toArray, List.set_cons_zero, List.set_cons_succ, List.getElem_toArray, List.getElem_cons_succ, List.getElem_cons_zero]
        refine wpAnyH_take (i := 12) (v := ?vv33) rfl (by kernel_rfl) (by kernel_rfl) (by kernel_rfl) (fun _ _ _ h => h) (Or.inl ⟨by rfl, ?hy33⟩) hHeld ?rr33
        case hy33 => (intro w' hSw; obtain ⟨s0, s1, s2⟩ := hSw; go_simp; try with_reducible rfl)
        try simp only [Act.put, List.setIfInBounds_toArray, List.set_cons_zero, List.set_cons_succ, List.getElem_toArray, List.getElem_cons_succ, List.getElem_cons_zero]
        refine wpAnyH_take (i := 13) (v := ?vv34) rfl (by kernel_rfl) (by kernel_rfl) (by kernel_rfl) (fun _ _ _ h => h) (Or.inl ⟨by rfl, ?hy34⟩) hHeld ?rr34
        case hy34 => (intro w' hSw; obtain ⟨s0, s1, s2⟩ := hSw; go_simp; try with_reducible rfl)
        try simp only [Act.put, List.setIfInBounds_toArray, List.set_cons_zero, List.set_cons_succ, List.getElem_toArray, List.getElem_cons_succ, List.getElem_cons_zero]
        refine wpAnyH_done (by kernel_rfl) ?_ _
        clear hHeld
        obtain ⟨W0, hW0⟩ : ∃ W0, W0 = wr.drew := ⟨_, rfl⟩
        have hB0 : Below wr.heap.size wr W0 := by rw [hW0]; exact (Below.refl _ _).drew
        rw [← hW0]
        clear hW0 hlook g9 g10
        have hT1 := HR.out.later (hB0.trans ((below_alloc W0 (.cells #[.slice xA nx xc] 27)).mono hB0.size))
        obtain ⟨bs, b1, b2, b3, b4⟩ := hT1.bs
        have HBs := Lib.hid (And.intro b1 (And.intro b2 (And.intro b3 b4)))
        have HT1 := Lib.hid hT1
        have HX1b := Lib.hid (HD1.out.later (hB0.trans ((below_alloc W0 (.cells #[.slice xA nx xc] 27)).mono hB0.size)))
        have HXv : Hid (ByU (W0.alloc (.cells #[.slice xA nx xc] 27)) xA xb) := Lib.hid ((by rw [HXb.out]; exact HXu.out : ByU wr xA xb).later (hB0.trans ((below_alloc W0 (.cells #[.slice xA nx xc] 27)).mono hB0.size)))
        have HFx : Hid (putF s.l.inn sq b (s.l.wanted + (k : Int)) = some (SlV.mk xb xA xc).b) := Lib.hid (by rw [← HWn.out, HXb.out]; exact HFk.out)
        have hkp : k ≤ 1000001 := by have := HD2.out; have := HP.out; omega
        clear b1 b2 b3 b4 hT1 hB0
        go_wp2_with (first | (at_builtin; refine wpList_append_k _ rfl (.tmp 63) (.tmp 65) 34 rfl 27 i0 (.slice none 0 0) 1 24 Try.underlying34 hinfo hz0 hzs hz2 rfl (by decide) w.heap.size _ k (bs.map SlV.val) rfl HBs.out.2.1 (some ⟨W0.heap.size, 0, none⟩) 1 1 [.slice xA nx xc] rfl rfl (fun _ => ⟨_, rfl, cells_of_block (heap_new W0 (.cells #[.slice xA nx xc] 27))⟩) (fun u hu => by rw [List.mem_singleton.1 hu]; rfl) (by unfold maxLen; omega) (by omega) HT1.out.moved.size ?_; intro A3 c3 w3 hown3 hgrow3 hwh3; rw [HV.out] at hown3; have HM3 := Lib.hid (tk_mid (x := ⟨xb, xA, xc⟩) HFt.out HBs.out.1 HBs.out.2.1 HBs.out.2.2.1 HBs.out.2.2.2 HX1b.out HD2.out HT1.out.moved HT1.out.ku HXv.out HFx.out hown3 hgrow3); clear hown3 hgrow3 hwh3))
        have hX3 := HM3.out.ses.1
        have r10 := hX3.c10
        have r9 : w3.cell? ⟨p, 9, none⟩ = some (.int .i64 (wn + (k : Int))) := by rw [HWn.out]; exact hX3.c9
        have HX3d := Lib.hid (hX3.later (Below.refl w3.heap.size w3).drew)
        obtain ⟨ok4, ok5⟩ := ok_tk (m := s.mine) (l := s.l) (f := putF s.l.inn sq b) (P := s.l.puts + 1) (k := k) (b := b0) HD1.out.ok (by rw [← HWn.out]; exact HFk.out)
        have HOk5 := Lib.hid ok5
        obtain ⟨w4, D4, hrun4, hX4, hz4, hm4, hk4⟩ := HX3d.out.del (j := s.l.wanted + (k : Int)) (by rw [← HWn.out]; omega) (by rw [← HWn.out]; exact HXh.out) ok4
        rw [← HWn.out] at hrun4
        have HX4 := Lib.hid hX4
        have hkw : wn + (k : Int) + 1 ≤ 2147483648 := by have h := ok5.wanted.2; have h2 : s.l.wanted + ((k + 1 : Nat) : Int) ≤ 2147483648 := h; have := HWn.out; omega
        have HEnd : Hid (TkRel F p s (putF s.l.inn sq b) A c vs bm w (k + 1) A3 c3 (w4.setCell ⟨p, 9, none⟩ (.int .i64 (wn + (k : Int) + 1)))) := Lib.hid (by
          rw [HWn.out]
          exact tk_end HFt.out (b := b0) HM3.out (by rw [← HWn.out]; exact HFk.out) HOk5.out hX4 hz4 ⟨hm4.os, hm4.tape, hm4.output, hm4.size, hm4.block⟩ hk4)
        have u10 := hX4.c10
        have u9 : w4.cell? ⟨p, 9, none⟩ = some (.int .i64 (wn + (k : Int))) := by rw [HWn.out]; exact hX4.c9
        have v9 := hX4.free 9
        have kw : IntKind.i64.wrap (wn + (k : Int) + 1) = wn + (k : Int) + 1 := by rw [IntKind.wrap_i64]; omega
        clear hX3 ok4 ok5 hX4 hz4 hm4 hk4
        refine wp_region_held_drew (S := (fun V => V.cell? ⟨p, 10, none⟩ = some (.map (some bm)) ∧ V.cell? ⟨p, 9, none⟩ = some (.int .i64 (wn + (k : Int))))) (by kernel_rfl) ⟨r10, r9⟩ (fun hHeld => ?_)
        refine wpAnyH_take (i := 0) (v := ?vv35) rfl (by kernel_rfl) (by kernel_rfl) (by kernel_rfl) (fun _ _ _ h => h) (Or.inl ⟨by rfl, ?hy35⟩) hHeld ?rr35
        case hy35 => (intro w' hSw; obtain ⟨s0, s1⟩ := hSw; go_simp; try with_reducible rfl)
        try simp only [Act.put, List.setIfInBounds_toArray, List.set_cons_zero, List.set_cons_succ, List.getElem_toArray, List.getElem_cons_succ, List.getElem_cons_zero]
        refine wpAnyH_take (i := 1) (v := ?vv36) rfl (by kernel_rfl) (by kernel_rfl) (by kernel_rfl) (fun _ _ _ h => h) (Or.inl ⟨by rfl, ?hy36⟩) hHeld ?rr36
        case hy36 => (intro w' hSw; obtain ⟨s0, s1⟩ := hSw; go_simp; try with_reducible rfl)
        try simp only [Act.put, List.setIfInBounds_toArray, List.set_cons_zero, List.set_cons_succ, List.getElem_toArray, List.getElem_cons_succ, List.getElem_cons_zero]
        refine wpAnyH_take (i := 2) (v := ?vv37) rfl (by kernel_rfl) (by kernel_rfl) (by kernel_rfl) (fun _ _ _ h => h) (Or.inl ⟨by rfl, ?hy37⟩) hHeld ?rr37
        case hy37 => (intro w' hSw; obtain ⟨s0, s1⟩ := hSw; go_simp; try with_reducible rfl)
        try simp only [Act.put, List.setIfInBounds_toArray, List.set_cons_zero, List.set_cons_succ, List.getElem_toArray, List.getElem_cons_succ, List.getElem_cons_zero]
        refine wpAnyH_take (i := 3) (v := ?vv38) rfl (by kernel_rfl) (by kernel_rfl) (by kernel_rfl) (fun _ _ _ h => h) (Or.inl ⟨by rfl, ?hy38⟩) hHeld ?rr38
        case hy38 => (intro w' hSw; obtain ⟨s0, s1⟩ := hSw; go_simp; try with_reducible rfl)
        try simp only [Act.put, List.setIfInBounds_toArray, List.set_cons_zero, List.set_cons_succ, List.getElem_toArray, List.getElem_cons_succ, List.getElem_cons_zero]
        refine wpAnyH_take (i := 4) (v := ?vv39) rfl (by kernel_rfl) (by kernel_rfl) (by kernel_rfl) (fun _ _ _ h => h) (Or.inl ⟨by rfl, ?hy39⟩) hHeld ?rr39
        case hy39 => (intro w' hSw; obtain ⟨s0, s1⟩ := hSw; go_simp; try with_reducible rfl)
        try simp only [Act.put, List.setIfInBounds_toArray, List.set_cons_zero, List.set_cons_succ, List.getElem_toArray, List.getElem_cons_succ, List.getElem_cons_zero]
        refine wpAnyH_take (i := 5) (v := ?vv40) rfl (by kernel_rfl) (by kernel_rfl) (by kernel_rfl) (fun _ _ _ h => h) (Or.inl ⟨by rfl, ?hy40⟩) hHeld ?rr40
        case hy40 => (intro w' hSw; obtain ⟨s0, s1⟩ := hSw; go_simp; try with_reducible rfl)
        try simp only [Act.put, List.setIfInBounds_toArray, List.set_cons_zero, List.set_cons_succ, List.getElem_toArray, List.getElem_cons_succ, List.getElem_cons_zero]
        refine wpAnyH_take (i := 6) (v := ?vv41) rfl (by kernel_rfl) (by kernel_rfl) (by kernel_rfl) (fun _ _ _ h => h) (Or.inl ⟨by rfl, ?hy41⟩) hHeld ?rr41
        case hy41 => (intro w' hSw; obtain ⟨s0, s1⟩ := hSw; go_simp; try with_reducible rfl)
        try simp only [Act.put, List.setIfInBounds_toArray, List.set_cons_zero, List.set_cons_succ, List.getElem_toArray, List.getElem_cons_succ, List.getElem_cons_zero]
        refine wpAnyH_take (i := 7) (v := ?vv42) rfl (by kernel_rfl) (by kernel_rfl) (by kernel_rfl) (fun _ _ _ h => h) (Or.inl ⟨by rfl, ?hy42⟩) hHeld ?rr42
        case hy42 => (intro w' hSw; obtain ⟨s0, s1⟩ := hSw; go_simp; try with_reducible rfl)
        try simp only [Act.put, List.setIfInBounds_toArray, List.set_cons_zero, List.set_cons_succ, List.getElem_toArray, List.getElem_cons_succ, List.getElem_cons_zero]
        refine wpAnyH_ready (rs := [8]) (by kernel_rfl) (by simp) ?_
        refine AllReadyH.cons rfl (fun K hK => ?_) AllReadyH.nil
        try rw [if_pos (by rfl)]
        go_simp
        refine hK.out _ _ ⟨u10, u9⟩ (fun hHeld2 => ?_)
        clear hK K hHeld
        have hHeld := hHeld2
        clear hHeld2
        try simp only [Act.put, List.setIfInBounds_toArray, List.set_cons_zero, List.set_cons_succ, List.getElem_toArray, List.getElem_cons_succ, List.getElem_cons_zero]
        refine wpAnyH_done (by kernel_rfl) ?_ _
        clear hHeld
        clear hrun4
        go_wp2
        go_roundw
        case rel => exact ⟨k + 1, A3, c3, rfl, HEnd⟩
        case measure => (show s.l.puts + 2 - (k + 1) < s.l.puts + 2 - k; have := HD2.out; omega)
  | none =>
    have HIn : Hid (({ s.l with ackDue := true } : Link).inn sq = none) := Lib.hid hin
    have HOkp : Hid (Ok ⟨s.mine, { ({ s.l with ackDue := true } : Link) with inn := putF s.l.inn sq b, puts := s.l.puts + 1 }⟩) := Lib.hid (by have := HOk0.out; rw [tkL_zero] at this; exact this)
    have hrun := (HX1.out.look (j := sq) (by omega)).1 hin
    clear h hb hp hin hF
    go_enter Try.func23, Try.ntmps23
    go_wp2_with (rw [← HW1.out])
    clear hrun
    refine wp_region_held_drew (S := (fun V => V.cell? ⟨p, 10, none⟩ = some (.map (some bm)))) (by kernel_rfl) e10 (fun hHeld => ?_)
    refine wpAnyH_take (i := 0) (v := ?vv1) rfl (by kernel_rfl) (by kernel_rfl) (by kernel_rfl) (fun _ _ _ h => h) (Or.inl ⟨by rfl, ?hy1⟩) hHeld ?rr1
    case hy1 => (intro w' hSw; have s0 := hSw; go_simp; try with_reducible rfl)
    try simp only [Act.put, List.setIfInBounds_toArray, List.set_cons_zero, List.set_cons_succ, List.getElem_toArray, List.getElem_cons_succ, List.getElem_cons_zero]
    refine wpAnyH_take (i := 1) (v := ?vv2) rfl (by kernel_rfl) (by kernel_rfl) (by kernel_rfl) (fun _ _ _ h => h) (Or.inl ⟨by rfl, ?hy2⟩) hHeld ?rr2
    case hy2 => (intro w' hSw; have s0 := hSw; go_simp; try with_reducible rfl)
    try simp only [Act.put, List.setIfInBounds_toArray, List.set_cons_zero, List.set_cons_succ, List.getElem_toArray, List.getElem_cons_succ, List.getElem_cons_zero]
    refine wpAnyH_take (i := 2) (v := ?vv3) rfl (by kernel_rfl) (by kernel_rfl) (by kernel_rfl) (fun _ _ _ h => h) (Or.inl ⟨by rfl, ?hy3⟩) hHeld ?rr3
    case hy3 => (intro w' hSw; have s0 := hSw; go_simp; try with_reducible rfl)
    try simp only [Act.put, List.setIfInBounds_toArray, List.set_cons_zero, List.set_cons_succ, List.getElem_toArray, List.getElem_cons_succ, List.getElem_cons_zero]
    refine wpAnyH_take (i := 3) (v := ?vv4) rfl (by kernel_rfl) (by kernel_rfl) (by kernel_rfl) (fun _ _ _ h => h) (Or.inl ⟨by rfl, ?hy4⟩) hHeld ?rr4
    case hy4 => (intro w' hSw; have s0 := hSw; go_simp; try with_reducible rfl)
    try simp only [Act.put, List.setIfInBounds_toArray, List.set_cons_zero, List.set_cons_succ, List.getElem_toArray, List.getElem_cons_succ, List.getElem_cons_zero]
    refine wpAnyH_take (i := 4) (v := ?vv5) rfl (by kernel_rfl) (by kernel_rfl) (by kernel_rfl) (fun _ _ _ h => h) (Or.inl ⟨by rfl, ?hy5⟩) hHeld ?rr5
    case hy5 => (intro w' hSw; have s0 := hSw; go_simp; try with_reducible rfl)
    try simp only [Act.put, List.setIfInBounds_toArray, List.set_cons_zero, List.set_cons_succ, List.getElem_toArray, List.getElem_cons_succ, List.getElem_cons_zero]
    refine wpAnyH_take (i := 5) (v := ?vv6) rfl (by kernel_rfl) (by kernel_rfl) (by kernel_rfl) (fun _ _ _ h => h) (Or.inl ⟨by rfl, ?hy6⟩) hHeld ?rr6
    case hy6 => (intro w' hSw; have s0 := hSw; go_simp; try with_reducible rfl)
    try simp only [Act.put, List.setIfInBounds_toArray, List.set_cons_zero, List.set_cons_succ, List.getElem_toArray, List.getElem_cons_succ, List.getElem_cons_zero]
    refine wpAnyH_ready (rs := [6]) (by kernel_rfl) (by simp) ?_
    refine AllReadyH.cons rfl (fun K hK => ?_) AllReadyH.nil
    try rw [if_pos (by rfl)]
    go_simp
    go_at_call 25
    refine Calls.mono (clone_any A0 b c0 _ (HY1.out.later (Below.refl _ _).drew) (by have := HBl.out; omega)) ?_
    rintro e w3 ⟨A3, c3, rfl, hby3, hb3, hl3, hc31, hc32, hown3⟩
    have HB3 : Hid (Below W1.heap.size W1 w3) := Lib.hid ((Below.refl _ _).drew.trans hb3)
    have hX3 := HX1.out.later HB3.out
    have q3 := hX3.c10
    obtain ⟨w5, D5, hrun5, hX5, hm5, hk5⟩ := hX3.store (j := sq) (by omega) ⟨b, A3, c3⟩ (own_byu hown3) HP.out HIn.out HOkp.out
    replace hrun5 : (Instr.mapUpdate 54 (.map (some bm)) (.int .i64 sq) (.slice A3 b.length c3)).run Try.prog w3 = .ok () w5 := hrun5
    have q5 := hX5.c10
    have hmF : Moved F w w5 := (HM1.out.trans (q := fun _ => False) (Below.movedNew HB3.out) (fun _ _ h => h.elim)).trans hm5 (fun k _ e => e ▸ HX.out.inF.2.1)
    have hkF : Ku w w5 := (HK1.out.trans (Below.ku HB3.out)).trans hk5
    have HT0 : Hid (TkRel F p s (putF s.l.inn sq b) A c vs bm w 0 none 0 w5) := Lib.hid ⟨⟨[], rfl, World.ownsRow_nil _ _ _ _, (fun x hx => (by cases hx)), (fun j x hj => (by cases hj))⟩, ⟨D5, by rw [tkL_zero]; exact hX5, by have := hX5.size; exact this⟩, hmF, hkF⟩
    clear hby3 hb3 hl3 hc31 hc32 hown3 hX3 hX5 hm5 hk5 hmF hkF
    go_wp2_with fail
    refine hK.out _ _ q3 (fun hHeld2 => ?_)
    clear hK K hHeld
    have hHeld := hHeld2
    clear hHeld2
    try simp only [Act.put, List.setIfInBounds_toArray, List.set_cons_zero, List.set_cons_succ, List.getElem_toArray, List.getElem_cons_succ, List.getElem_cons_zero]
    refine wpAnyH_ready (rs := [7]) (by kernel_rfl) (by simp) ?_
    refine AllReadyH.cons rfl (fun K hK => ?_) AllReadyH.nil
    try rw [if_pos (by rfl)]
    go_simp
    refine hK.out _ _ q5 (fun hHeld2 => ?_)
    clear hK K hHeld
    have hHeld := hHeld2
    clear hHeld2
    try simp only [Act.put, List.setIfInBounds_toArray, List.set_cons_zero, List.set_cons_succ, List.getElem_toArray, List.getElem_cons_succ, List.getElem_cons_zero]
    refine wpAnyH_done (by kernel_rfl) ?_ _
    clear hHeld
    clear hrun5
    go_wp2_with fail
    go_loopw [9] (fun v wr => ∃ (k : Nat) (Ab : Option Addr) (cb : Nat), v = .slice Ab k cb ∧ Hid (TkRel F p s (putF s.l.inn sq b) A c vs bm w k Ab cb wr)) (fun v _ => match v with | .slice _ n _ => s.l.puts + 2 - n | _ => 0)
    case atStart => exact ⟨0, none, 0, rfl, HT0⟩
    case round =>
      obtain ⟨k, Ab, cb, rfl, HR⟩ := hrel
      obtain ⟨D2, d1, d2⟩ := HR.out.ses
      have HD1 := Lib.hid d1
      have HD2 := Lib.hid d2
      have hwk := d1.ok.wanted
      have hwk2 : 1 ≤ wn + (k : Int) ∧ wn + (k : Int) ≤ 2147483648 := by rw [HWn.out]; exact hwk
      have g10 : wr.cell? ⟨p, 10, none⟩ = some (.map (some bm)) := d1.c10
      have g9 : wr.cell? ⟨p, 9, none⟩ = some (.int .i64 (wn + (k : Int))) := by rw [HWn.out]; exact d1.c9
      have HAt : Hid (without (putF s.l.inn sq b) s.l.wanted k (wn + k) = putF s.l.inn sq b (wn + k)) := Lib.hid (by rw [HWn.out]; exact without_at _ _ _)
      have lk := (d1.later (Below.refl wr.heap.size wr).drew).look (j := wn + (k : Int)) (by omega)
      clear d1 d2 hwk
      cases hfk : putF s.l.inn sq b (wn + (k : Int)) with
      | none =>
        have hlook := lk.1 (HAt.out.trans hfk)
        have HFk := Lib.hid hfk
        clear lk hfk
        go_wp2_with fail
        refine wp_region_held_drew (S := (fun V => V.cell? ⟨p, 10, none⟩ = some (.map (some bm)) ∧ V.cell? ⟨p, 9, none⟩ = some (.int .i64 (wn + (k : Int))) ∧ (Instr.lookup 54 (.map (some bm)) (.int .i64 (wn + (k : Int))) true).run Try.prog V = .ok (.tuple #[.slice none 0 0, .bool false]) V)) (by kernel_rfl) ⟨g10, g9, hlook⟩ (fun hHeld => ?_)
        refine wpAnyH_take (i := 0) (v := ?vv43) rfl (by kernel_rfl) (by kernel_rfl) (by kernel_rfl) (fun _ _ _ h => h) (Or.inl ⟨by rfl, ?hy43⟩) hHeld ?rr43
        case hy43 => (intro w' hSw; obtain ⟨s0, s1, s2⟩ := hSw; go_simp; try with_reducible rfl)
        try simp only [Act.put, List.setIfInBounds_toArray, List.set_cons_zero, List.set_cons_succ, List.getElem_toArray, List.getElem_cons_succ, List.getElem_cons_zero]
        refine wpAnyH_take (i := 1) (v := ?vv44) rfl (by kernel_rfl) (by kernel_rfl) (by kernel_rfl) (fun _ _ _ h => h) (Or.inl ⟨by rfl, ?hy44⟩) hHeld ?rr44
        case hy44 => (intro w' hSw; obtain ⟨s0, s1, s2⟩ := hSw; go_simp; try with_reducible rfl)
        try simp only [Act.put, List.setIfInBounds_toArray, List.set_cons_zero, List.set_cons_succ, List.getElem_toArray, List.getElem_cons_succ, List.getElem_cons_zero]
        refine wpAnyH_take (i := 2) (v := ?vv45) rfl (by kernel_rfl) (by kernel_rfl) (by kernel_rfl) (fun _ _ _ h => h) (Or.inl ⟨by rfl, ?hy45⟩) hHeld ?rr45
        case hy45 => (intro w' hSw; obtain ⟨s0, s1, s2⟩ := hSw; go_simp; try with_reducible rfl)
        try simp only [Act.put, List.setIfInBounds_toArray, List.set_cons_zero, List.set_cons_succ, List.getElem_toArray, List.getElem_cons_succ, List.getElem_cons_zero]
        refine wpAnyH_take (i := 3) (v := ?vv46) rfl (by kernel_rfl) (by kernel_rfl) (by kernel_rfl) (fun _ _ _ h => h) (Or.inl ⟨by rfl, ?hy46⟩) hHeld ?rr46
        case hy46 => (intro w' hSw; obtain ⟨s0, s1, s2⟩ := hSw; go_simp; try with_reducible rfl)
        try simp only [Act.put, List.setIfInBounds_toArray, List.set_cons_zero, List.set_cons_succ, List.getElem_toArray, List.getElem_cons_succ, List.getElem_cons_zero]
        refine wpAnyH_take (i := 4) (v := ?vv47) rfl (by kernel_rfl) (by kernel_rfl) (by kernel_rfl) (fun _ _ _ h => h) (Or.inl ⟨by rfl, ?hy47⟩) hHeld ?rr47
        case hy47 => (intro w' hSw; obtain ⟨s0, s1, s2⟩ := hSw; go_simp; try with_reducible rfl)
        try simp only [Act.put, List.setIfInBounds_toArray, List.set_cons_zero, List.set_cons_succ, List.getElem_toArray, List.getElem_cons_succ, List.getElem_cons_zero]
        refine wpAnyH_take (i := 5) (v := ?vv48) rfl (by kernel_rfl) (by kernel_rfl) (by kernel_rfl) (fun _ _ _ h => h) (Or.inl ⟨by rfl, ?hy48⟩) hHeld ?rr48
        case hy48 => (intro w' hSw; obtain ⟨s0, s1, s2⟩ := hSw; go_simp; try with_reducible rfl)
        try simp only [Act.put, List.setIfInBounds_toArray, List.set_cons_zero, List.set_cons_succ, List.getElem_toArray, List.getElem_cons_succ, List.getElem_cons_zero]
        refine wpAnyH_take (i := 6) (v := ?vv49) rfl (by kernel_rfl) (by kernel_rfl) (by kernel_rfl) (fun _ _ _ h => h) (Or.inl ⟨by rfl, ?hy49⟩) hHeld ?rr49
        case hy49 => (intro w' hSw; obtain ⟨s0, s1, s2⟩ := hSw; go_simp; try with_reducible rfl)
        try simp only [Act.put, List.setIfInBounds_toArray, List.set_cons_zero, List.set_cons_succ, List.getElem_toArray, List.getElem_cons_succ, List.getElem_cons_zero]
        refine wpAnyH_take (i := 7) (v := ?vv50) rfl (by kernel_rfl) (by kernel_rfl) (by kernel_rfl) (fun _ _ _ h => h) (Or.inl ⟨by rfl, ?hy50⟩) hHeld ?rr50
        case hy50 => (intro w' hSw; obtain ⟨s0, s1, s2⟩ := hSw; go_simp; try with_reducible rfl)
        try simp only [Act.put, List.setIfInBounds_toArray, List.set_cons_zero, List.set_cons_succ, List.getElem_toArray, List.getElem_cons_succ, List.getElem_cons_zero]
        refine wpAnyH_take (i := 8) (v := ?vv51) rfl (by kernel_rfl) (by kernel_rfl) (by kernel_rfl) (fun _ _ _ h => h) (Or.inl ⟨by rfl, ?hy51⟩) hHeld ?rr51
        case hy51 => (intro w' hSw; obtain ⟨s0, s1, s2⟩ := hSw; go_simp; try with_reducible rfl)
        try simp only [Act.put, List.setIfInBounds_toArray, List.set_cons_zero, List.set_cons_succ, List.getElem_toArray, List.getElem_cons_succ, List.getElem_cons_zero]
        refine wpAnyH_take (i := 9) (v := ?vv52) rfl (by kernel_rfl) (by kernel_rfl) (by kernel_rfl) (fun _ _ _ h => h) (Or.inl ⟨by rfl, ?hy52⟩) hHeld ?rr52
        case hy52 => (intro w' hSw; obtain ⟨s0, s1, s2⟩ := hSw; go_simp; try with_reducible rfl)
        try simp only [Act.put, List.setIfInBounds_toArray, List.set_cons_zero, List.set_cons_succ, List.getElem_toArray, List.getElem_cons_succ, List.getElem_cons_zero]
        refine wpAnyH_take (i := 10) (v := ?vv53) rfl (by kernel_rfl) (by kernel_rfl) (by kernel_rfl) (fun _ _ _ h => h) (Or.inl ⟨by rfl, ?hy53⟩) hHeld ?rr53
        case hy53 => (intro w' hSw; obtain ⟨s0, s1, s2⟩ := hSw; go_simp; try with_reducible rfl)
        try simp only [Act.put, List.setIfInBounds_toArray, List.set_cons_zero, List.set_cons_succ, List.getElem_toArray, List.getElem_cons_succ, List.getElem_cons_zero]
        refine wpAnyH_take (i := 11) (v := ?vv54) rfl (by kernel_rfl) (by kernel_rfl) (by kernel_rfl) (fun _ _ _ h => h) (Or.inl ⟨by rfl, ?hy54⟩) hHeld ?rr54
        case hy54 => (intro w' hSw; obtain ⟨s0, s1, s2⟩ := hSw; go_simp; try with_reducible rfl)
        try simp only [Act.put, List.setIfInBounds_toArray, List.set_cons_zero, List.set_cons_succ, List.getElem_toArray, List.getElem_cons_succ, List.getElem_cons_zero]
        refine wpAnyH_take (i := 12) (v := ?vv55) rfl (by kernel_rfl) (by kernel_rfl) (by kernel_rfl) (fun _ _ _ h => h) (Or.inl ⟨by rfl, ?hy55⟩) hHeld ?rr55
        case hy55 => (intro w' hSw; obtain ⟨s0, s1, s2⟩ := hSw; go_simp; try with_reducible rfl)
        try simp only [Act.put, List.setIfInBounds_toArray, List.set_cons_zero, List.set_cons_succ, List.getElem_toArray, List.getElem_cons_succ, List.getElem_cons_zero]
        refine wpAnyH_take (i := 13) (v := ?vv56) rfl (by kernel_rfl) (by kernel_rfl) (by kernel_rfl) (fun _ _ _ h => h) (Or.inl ⟨by rfl, ?hy56⟩) hHeld ?rr56
        case hy56 => (intro w' hSw; obtain ⟨s0, s1, s2⟩ := hSw; go_simp; try with_reducible rfl)
        try simp only [Act.put, List.setIfInBounds_toArray, List.set_cons_zero, List.set_cons_succ, List.getElem_toArray, List.getElem_cons_succ, List.getElem_cons_zero]
        refine wpAnyH_done (by kernel_rfl) ?_ _
        clear hHeld
        go_wp2
        go_ret
        refine (HR.out.later (Below.refl _ _).drew).post rfl (by rw [← HWn.out]; have := H1.out; omega) (by rw [← HWn.out]; have := H2.out; omega) (by rw [← HWn.out]; exact HFk.out)
      | some b0 =>
        obtain ⟨x, hxb, hxh, hxu, hlook⟩ := lk.2 b0 (HAt.out.trans hfk)
        have HFk := Lib.hid hfk
        have HXu := Lib.hid hxu
        have HXb := Lib.hid hxb
        have HXh := Lib.hid hxh
        obtain ⟨xb, xA, xc⟩ := x
        obtain ⟨nx, hnx⟩ : ∃ nx, nx = xb.length := ⟨_, rfl⟩
        have HV : Hid (Value.slice xA nx xc = SlV.val ⟨xb, xA, xc⟩) := Lib.hid (by rw [hnx]; rfl)
        rw [← HV.out] at hlook
        clear lk hfk hxb hxh hxu hnx
        go_wp2_with fail
        refine wp_region_held_drew (S := (fun V => V.cell? ⟨p, 10, none⟩ = some (.map (some bm)) ∧ V.cell? ⟨p, 9, none⟩ = some (.int .i64 (wn + (k : Int))) ∧ (Instr.lookup 54 (.map (some bm)) (.int .i64 (wn + (k : Int))) true).run Try.prog V = .ok (.tuple #[.slice xA nx xc, .bool true]) V)) (by kernel_rfl) ⟨g10, g9, hlook⟩ (fun hHeld => ?_)
        refine wpAnyH_take (i := 0) (v := ?vv57) rfl (by kernel_rfl) (by kernel_rfl) (by kernel_rfl) (fun _ _ _ h => h) (Or.inl ⟨by rfl, ?hy57⟩) hHeld ?rr57
        case hy57 => (intro w' hSw; obtain ⟨s0, s1, s2⟩ := hSw; go_simp; try with_reducible rfl)
        try simp only [Act.put, List.setIfInBounds_toArray, List.set_cons_zero, List.set_cons_succ, List.getElem_toArray, List.getElem_cons_succ, List.getElem_cons_zero]
        refine wpAnyH_take (i := 1) (v := ?vv58) rfl (by kernel_rfl) (by kernel_rfl) (by kernel_rfl) (fun _ _ _ h => h) (Or.inl ⟨by rfl, ?hy58⟩) hHeld ?rr58
        case hy58 => (intro w' hSw; obtain ⟨s0, s1, s2⟩ := hSw; go_simp; try with_reducible rfl)
        try simp only [Act.put, List.setIfInBounds_toArray, List.set_cons_zero, List.set_cons_succ, List.getElem_toArray, List.getElem_cons_succ, List.getElem_cons_zero]
        refine wpAnyH_take (i := 2) (v := ?vv59) rfl (by kernel_rfl) (by kernel_rfl) (by kernel_rfl) (fun _ _ _ h => h) (Or.inl ⟨by rfl, ?hy59⟩) hHeld ?rr59
        case hy59 => (intro w' hSw; obtain ⟨s0, s1, s2⟩ := hSw; go_simp; try with_reducible rfl)
        try simp only [Act.put, List.setIfInBounds_toArray, List.set_cons_zero, List.set_cons_succ, List.getElem_toArray, List.getElem_cons_succ, List.getElem_cons_zero]
        refine wpAnyH_take (i := 3) (v := ?vv60) rfl (by kernel_rfl) (by kernel_rfl) (by kernel_rfl) (fun _ _ _ h => h) (Or.inl ⟨by rfl, ?hy60⟩) hHeld ?rr60
        case hy60 => (intro w' hSw; obtain ⟨s0, s1, s2⟩ := hSw; go_simp; try with_reducible rfl)
        try simp only [Act.put, List.setIfInBounds_toArray, List.set_cons_zero, List.set_cons_succ, List.getElem_toArray, List.getElem_cons_succ, List.getElem_cons_zero]
        refine wpAnyH_take (i := 4) (v := ?vv61) rfl (by kernel_rfl) (by kernel_rfl) (by kernel_rfl) (fun _ _ _ h => h) (Or.inl ⟨by rfl, ?hy61⟩) hHeld ?rr61
        case hy61 => (intro w' hSw; obtain ⟨s0, s1, s2⟩ := hSw; go_simp; try with_reducible rfl)
        try simp only [Act.put, List.setIfInBounds_toArray, List.set_cons_zero, List.set_cons_succ, List.getElem_toArray, List.getElem_cons_succ, List.getElem_cons_zero]
        refine wpAnyH_take (i := 5) (v := ?vv62) rfl (by kernel_rfl) (by kernel_rfl) (by kernel_rfl) (fun _ _ _ h => h) (Or.inl ⟨by rfl, ?hy62⟩) hHeld ?rr62
        case hy62 => (intro w' hSw; obtain ⟨s0, s1, s2⟩ := hSw; go_simp; try with_reducible rfl)
        try simp only [Act.put, List.setIfInBounds_toArray, List.set_cons_zero, List.set_cons_succ, List.getElem_toArray, List.getElem_cons_succ, List.getElem_cons_zero]
        refine wpAnyH_take (i := 6) (v := ?vv63) rfl (by kernel_rfl) (by kernel_rfl) (by kernel_rfl) (fun _ _ _ h => h) (Or.inl ⟨by rfl, ?hy63⟩) hHeld ?rr63
        case hy63 => (intro w' hSw; obtain ⟨s0, s1, s2⟩ := hSw; go_simp; try with_reducible rfl)
        try simp only [Act.put, List.setIfInBounds_toArray, List.set_cons_zero, List.set_cons_succ, List.getElem_toArray, List.getElem_cons_succ, List.getElem_cons_zero]
        refine wpAnyH_take (i := 7) (v := ?vv64) rfl (by kernel_rfl) (by kernel_rfl) (by kernel_rfl) (fun _ _ _ h => h) (Or.inl ⟨by rfl, ?hy64⟩) hHeld ?rr64
        case hy64 => (intro w' hSw; obtain ⟨s0, s1, s2⟩ := hSw; go_simp; try with_reducible rfl)
        try simp only [Act.put, List.setIfInBounds_toArray, List.set_cons_zero, List.set_cons_succ, List.getElem_toArray, List.getElem_cons_succ, List.getElem_cons_zero]
        refine wpAnyH_take (i := 8) (v := ?vv65) rfl (by kernel_rfl) (by kernel_rfl) (by kernel_rfl) (fun _ _ _ h => h) (Or.inl ⟨by rfl, ?hy65⟩) hHeld ?rr65
        case hy65 => (intro w' hSw; obtain ⟨s0, s1, s2⟩ := hSw; go_simp; try with_reducible rfl)
        try simp only [Act.put, List.setIfInBounds_toArray, List.set_cons_zero, List.set_cons_succ, List.getElem_toArray, List.getElem_cons_succ, List.getElem_cons_zero]
        refine wpAnyH_take (i := 9) (v := ?vv66) rfl (by kernel_rfl) (by kernel_rfl) (by kernel_rfl) (fun _ _ _ h => h) (Or.inl ⟨by rfl, ?hy66⟩) hHeld ?rr66
        case hy66 => (intro w' hSw; obtain ⟨s0, s1, s2⟩ := hSw; go_simp; try with_reducible rfl)
        try simp only [Act.put, List.setIfInBounds_toArray, List.set_cons_zero, List.set_cons_succ, List.getElem_toArray, List.getElem_cons_succ, List.getElem_cons_zero]
        refine wpAnyH_take (i := 10) (v := ?vv67) rfl (by kernel_rfl) (by kernel_rfl) (by kernel_rfl) (fun _ _ _ h => h) (Or.inl ⟨by rfl, ?hy67⟩) hHeld ?rr67
        case hy67 => (intro w' hSw; obtain ⟨s0, s1, s2⟩ := hSw; go_simp; try with_reducible rfl)
        try simp only [Act.put, List.setIfInBounds_toArray, List.set_cons_zero, List.set_cons_succ, List.getElem_toArray, List.getElem_cons_succ, List.getElem_cons_zero]
        refine wpAnyH_take (i := 11) (v := ?vv68) rfl (by kernel_rfl) (by kernel_rfl) (by kernel_rfl) (fun _ _ _ h => h) (Or.inl ⟨by rfl, ?hy68⟩) hHeld ?rr68
        case hy68 => (intro w' hSw; obtain ⟨s0, s1, s2⟩ := hSw; go_simp; try with_reducible rfl)
        try simp only [Act.put, List.setIfInBounds_toArray, List.set_cons_zero, List.set_cons_succ, List.getElem_toArray, List.getElem_cons_succ, List.getElem_cons_zero]
        refine wpAnyH_take (i := 12) (v := ?vv69) rfl (by kernel_rfl) (by kernel_rfl) (by kernel_rfl) (fun _ _ _ h => h) (Or.inl ⟨by rfl, ?hy69⟩) hHeld ?rr69
        case hy69 => (intro w' hSw; obtain ⟨s0, s1, s2⟩ := hSw; go_simp; try with_reducible rfl)
        try simp only [Act.put, List.setIfInBounds_toArray, List.set_cons_zero, List.set_cons_succ, List.getElem_toArray, List.getElem_cons_succ, List.getElem_cons_zero]
        refine wpAnyH_take (i := 13) (v := ?vv70) rfl (by kernel_rfl) (by kernel_rfl) (by kernel_rfl) (fun _ _ _ h => h) (Or.inl ⟨by rfl, ?hy70⟩) hHeld ?rr70
        case hy70 => (intro w' hSw; obtain ⟨s0, s1, s2⟩ := hSw; go_simp; try with_reducible rfl)
        try simp only [Act.put, List.setIfInBounds_toArray, List.set_cons_zero, List.set_cons_succ, List.getElem_toArray, List.getElem_cons_succ, List.getElem_cons_zero]
        refine wpAnyH_done (by kernel_rfl) ?_ _
        clear hHeld
        obtain ⟨W0, hW0⟩ : ∃ W0, W0 = wr.drew := ⟨_, rfl⟩
        have hB0 : Below wr.heap.size wr W0 := by rw [hW0]; exact (Below.refl _ _).drew
        rw [← hW0]
        clear hW0 hlook g9 g10
        have hT1 := HR.out.later (hB0.trans ((below_alloc W0 (.cells #[.slice xA nx xc] 27)).mono hB0.size))
        obtain ⟨bs, b1, b2, b3, b4⟩ := hT1.bs
        have HBs := Lib.hid (And.intro b1 (And.intro b2 (And.intro b3 b4)))
        have HT1 := Lib.hid hT1
        have HX1b := Lib.hid (HD1.out.later (hB0.trans ((below_alloc W0 (.cells #[.slice xA nx xc] 27)).mono hB0.size)))
        have HXv : Hid (ByU (W0.alloc (.cells #[.slice xA nx xc] 27)) xA xb) := Lib.hid ((by rw [HXb.out]; exact HXu.out : ByU wr xA xb).later (hB0.trans ((below_alloc W0 (.cells #[.slice xA nx xc] 27)).mono hB0.size)))
        have HFx : Hid (putF s.l.inn sq b (s.l.wanted + (k : Int)) = some (SlV.mk xb xA xc).b) := Lib.hid (by rw [← HWn.out, HXb.out]; exact HFk.out)
        have hkp : k ≤ 1000001 := by have := HD2.out; have := HP.out; omega
        clear b1 b2 b3 b4 hT1 hB0
        go_wp2_with (first | (at_builtin; refine wpList_append_k _ rfl (.tmp 63) (.tmp 65) 34 rfl 27 i0 (.slice none 0 0) 1 24 Try.underlying34 hinfo hz0 hzs hz2 rfl (by decide) w.heap.size _ k (bs.map SlV.val) rfl HBs.out.2.1 (some ⟨W0.heap.size, 0, none⟩) 1 1 [.slice xA nx xc] rfl rfl (fun _ => ⟨_, rfl, cells_of_block (heap_new W0 (.cells #[.slice xA nx xc] 27))⟩) (fun u hu => by rw [List.mem_singleton.1 hu]; rfl) (by unfold maxLen; omega) (by omega) HT1.out.moved.size ?_; intro A3 c3 w3 hown3 hgrow3 hwh3; rw [HV.out] at hown3; have HM3 := Lib.hid (tk_mid (x := ⟨xb, xA, xc⟩) HFt.out HBs.out.1 HBs.out.2.1 HBs.out.2.2.1 HBs.out.2.2.2 HX1b.out HD2.out HT1.out.moved HT1.out.ku HXv.out HFx.out hown3 hgrow3); clear hown3 hgrow3 hwh3))
        have hX3 := HM3.out.ses.1
        have r10 := hX3.c10
        have r9 : w3.cell? ⟨p, 9, none⟩ = some (.int .i64 (wn + (k : Int))) := by rw [HWn.out]; exact hX3.c9
        have HX3d := Lib.hid (hX3.later (Below.refl w3.heap.size w3).drew)
        obtain ⟨ok4, ok5⟩ := ok_tk (m := s.mine) (l := s.l) (f := putF s.l.inn sq b) (P := s.l.puts + 1) (k := k) (b := b0) HD1.out.ok (by rw [← HWn.out]; exact HFk.out)
        have HOk5 := Lib.hid ok5
        obtain ⟨w4, D4, hrun4, hX4, hz4, hm4, hk4⟩ := HX3d.out.del (j := s.l.wanted + (k : Int)) (by rw [← HWn.out]; omega) (by rw [← HWn.out]; exact HXh.out) ok4
        rw [← HWn.out] at hrun4
        have HX4 := Lib.hid hX4
        have hkw : wn + (k : Int) + 1 ≤ 2147483648 := by have h := ok5.wanted.2; have h2 : s.l.wanted + ((k + 1 : Nat) : Int) ≤ 2147483648 := h; have := HWn.out; omega
        have HEnd : Hid (TkRel F p s (putF s.l.inn sq b) A c vs bm w (k + 1) A3 c3 (w4.setCell ⟨p, 9, none⟩ (.int .i64 (wn + (k : Int) + 1)))) := Lib.hid (by
          rw [HWn.out]
          exact tk_end HFt.out (b := b0) HM3.out (by rw [← HWn.out]; exact HFk.out) HOk5.out hX4 hz4 ⟨hm4.os, hm4.tape, hm4.output, hm4.size, hm4.block⟩ hk4)
        have u10 := hX4.c10
        have u9 : w4.cell? ⟨p, 9, none⟩ = some (.int .i64 (wn + (k : Int))) := by rw [HWn.out]; exact hX4.c9
        have v9 := hX4.free 9
        have kw : IntKind.i64.wrap (wn + (k : Int) + 1) = wn + (k : Int) + 1 := by rw [IntKind.wrap_i64]; omega
        clear hX3 ok4 ok5 hX4 hz4 hm4 hk4
        refine wp_region_held_drew (S := (fun V => V.cell? ⟨p, 10, none⟩ = some (.map (some bm)) ∧ V.cell? ⟨p, 9, none⟩ = some (.int .i64 (wn + (k : Int))))) (by kernel_rfl) ⟨r10, r9⟩ (fun hHeld => ?_)
        refine wpAnyH_take (i := 0) (v := ?vv71) rfl (by kernel_rfl) (by kernel_rfl) (by kernel_rfl) (fun _ _ _ h => h) (Or.inl ⟨by rfl, ?hy71⟩) hHeld ?rr71
        case hy71 => (intro w' hSw; obtain ⟨s0, s1⟩ := hSw; go_simp; try with_reducible rfl)
        try simp only [Act.put, List.setIfInBounds_toArray, List.set_cons_zero, List.set_cons_succ, List.getElem_toArray, List.getElem_cons_succ, List.getElem_cons_zero]
        refine wpAnyH_take (i := 1) (v := ?vv72) rfl (by kernel_rfl) (by kernel_rfl) (by kernel_rfl) (fun _ _ _ h => h) (Or.inl ⟨by rfl, ?hy72⟩) hHeld ?rr72
        case hy72 => (intro w' hSw; obtain ⟨s0, s1⟩ := hSw; go_simp; try with_reducible rfl)
        try simp only [Act.put, List.setIfInBounds_toArray, List.set_cons_zero, List.set_cons_succ, List.getElem_toArray, List.getElem_cons_succ, List.getElem_cons_zero]
        refine wpAnyH_take (i := 2) (v := ?vv73) rfl (by kernel_rfl) (by kernel_rfl) (by kernel_rfl) (fun _ _ _ h => h) (Or.inl ⟨by rfl, ?hy73⟩) hHeld ?rr73
        case hy73 => (intro w' hSw; obtain ⟨s0, s1⟩ := hSw; go_simp; try with_reducible rfl)
        try simp only [Act.put, List.setIfInBounds_toArray, List.set_cons_zero, List.set_cons_succ, List.getElem_toArray, List.getElem_cons_succ, List.getElem_cons_zero]
        refine wpAnyH_take (i := 3) (v := ?vv74) rfl (by kernel_rfl) (by kernel_rfl) (by kernel_rfl) (fun _ _ _ h => h) (Or.inl ⟨by rfl, ?hy74⟩) hHeld ?rr74
        case hy74 => (intro w' hSw; obtain ⟨s0, s1⟩ := hSw; go_simp; try with_reducible rfl)
        try simp only [Act.put, List.setIfInBounds_toArray, List.set_cons_zero, List.set_cons_succ, List.getElem_toArray, List.getElem_cons_succ, List.getElem_cons_zero]
        refine wpAnyH_take (i := 4) (v := ?vv75) rfl (by kernel_rfl) (by kernel_rfl) (by kernel_rfl) (fun _ _ _ h => h) (Or.inl ⟨by rfl, ?hy75⟩) hHeld ?rr75
        case hy75 => (intro w' hSw; obtain ⟨s0, s1⟩ := hSw; go_simp; try with_reducible rfl)
        try simp only [Act.put, List.setIfInBounds_toArray, List.set_cons_zero, List.set_cons_succ, List.getElem_toArray, List.getElem_cons_succ, List.getElem_cons_zero]
        refine wpAnyH_take (i := 5) (v := ?vv76) rfl (by kernel_rfl) (by kernel_rfl) (by kernel_rfl) (fun _ _ _ h => h) (Or.inl ⟨by rfl, ?hy76⟩) hHeld ?rr76
        case hy76 => (intro w' hSw; obtain ⟨s0, s1⟩ := hSw; go_simp; try with_reducible rfl)
        try simp only [Act.put, List.setIfInBounds_toArray, List.set_cons_zero, List.set_cons_succ, List.getElem_toArray, List.getElem_cons_succ, List.getElem_cons_zero]
        refine wpAnyH_take (i := 6) (v := ?vv77) rfl (by kernel_rfl) (by kernel_rfl) (by kernel_rfl) (fun _ _ _ h => h) (Or.inl ⟨by rfl, ?hy77⟩) hHeld ?rr77
        case hy77 => (intro w' hSw; obtain ⟨s0, s1⟩ := hSw; go_simp; try with_reducible rfl)
        try simp only [Act.put, List.setIfInBounds_toArray, List.set_cons_zero, List.set_cons_succ, List.getElem_toArray, List.getElem_cons_succ, List.getElem_cons_zero]
        refine wpAnyH_take (i := 7) (v := ?vv78) rfl (by kernel_rfl) (by kernel_rfl) (by kernel_rfl) (fun _ _ _ h => h) (Or.inl ⟨by rfl, ?hy78⟩) hHeld ?rr78
        case hy78 => (intro w' hSw; obtain ⟨s0, s1⟩ := hSw; go_simp; try with_reducible rfl)
        try simp only [Act.put, List.setIfInBounds_toArray, List.set_cons_zero, List.set_cons_succ, List.getElem_toArray, List.getElem_cons_succ, List.getElem_cons_zero]
        refine wpAnyH_ready (rs := [8]) (by kernel_rfl) (by simp) ?_
        refine AllReadyH.cons rfl (fun K hK => ?_) AllReadyH.nil
        try rw [if_pos (by rfl)]
        go_simp
        refine hK.out _ _ ⟨u10, u9⟩ (fun hHeld2 => ?_)
        clear hK K hHeld
        have hHeld := hHeld2
        clear hHeld2
        try simp only [Act.put, List.setIfInBounds_toArray, List.set_cons_zero, List.set_cons_succ, List.getElem_toArray, List.getElem_cons_succ, List.getElem_cons_zero]
        refine wpAnyH_done (by kernel_rfl) ?_ _
        clear hHeld
        clear hrun4
        go_wp2
        go_roundw
        case rel => exact ⟨k + 1, A3, c3, rfl, HEnd⟩
        case measure => (show s.l.puts + 2 - (k + 1) < s.l.puts + 2 - k; have := HD2.out; omega)
end
end Go.Proofs.Ytihkjdoajfjnpaa
