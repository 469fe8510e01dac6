/- Bytes appended to a row of the call's own, whatever the source: nil, empty or not. No function of the program. -/
import Derived.Test.YtkdfkhebjhnbmaaOpen
import Derived.Deep.AppendLies
import Derived.OwnWalk
set_option linter.unusedSimpArgs false
set_option linter.unusedVariables false
namespace Go.Proofs.Ytkdfkhebjhnbmaa
open Go.ChangeShapes Go.WideShapes Go.ChangeAt Go.RowKit Go.Base

abbrev u8v (c : UInt8) : Value := .int .u8 (c.toNat : Int)
theorem add_off (b o j : Nat) : (⟨b, o, none⟩ : Addr).add j = ⟨b, o + j, none⟩ := by unfold Addr.add; split <;> simp_all
theorem Byt.news {w : World} {b o : Nat} {bs : List UInt8} (h : Byt w (some ⟨b, o, none⟩) bs) : ∀ j u, (bs.map u8v)[j]? = some u → w.cell? ((⟨b, o, none⟩ : Addr).add j) = some u := fun j u hu => by
  rw [List.getElem?_map] at hu
  by_cases hj : j < bs.length
  · obtain ⟨b', o', e, c⟩ := h j hj
    injection e with e; injection e with e1 e2 _; subst e1; subst e2
    rw [add_off, c]
    rw [List.getElem?_eq_getElem hj] at hu
    exact hu
  · rw [List.getElem?_eq_none (by omega)] at hu; cases hu
theorem Byt.at_ {w : World} {b o : Nat} {bs : List UInt8} (h : Byt w (some ⟨b, o, none⟩) bs) {k : Nat} (hk : k < bs.length) : w.cell? ⟨b, o + k, none⟩ = some (u8v bs[k]) := by
  obtain ⟨b', o', e, c⟩ := h k hk
  injection e with e; injection e with e1 e2 _; subst e1; subst e2
  exact c
theorem u8v_one (bs : List UInt8) : ∀ u ∈ bs.map u8v, u.oneCell' = true := fun u hu => by
  obtain ⟨c, _, rfl⟩ := List.mem_map.1 hu; rfl
/-- What a row of the call's own holds, of bytes. -/
theorem own_byt {w : World} {base g cap n : Nat} {bs : List UInt8} {e : TypeId} (h : w.ownsRow base e 1 (.slice (some ⟨g, 0, none⟩) n cap) n (bs.map u8v)) :
    Byt w (some ⟨g, 0, none⟩) bs ∧ (∀ k, k < bs.length → w.frozen? ⟨g, k, none⟩ = false) ∧ base ≤ g ∧ g < w.heap.size := by
  obtain ⟨hl, h2⟩ := h
  rw [List.length_map] at hl
  rcases h2 with ⟨h, _⟩ | ⟨g', cap', cur, hv, hb, hg, hn, hc, hs, ht⟩
  · cases h
  · injection hv with hv _ _; injection hv with hv; injection hv with hv _ _; subst hv
    refine ⟨fun i hi => ⟨g, 0, rfl, ?_⟩, fun k _ => by simp [World.frozen?, hg], hb, ?_⟩
    · rw [Nat.zero_add, cell_of_row w g i cur e (0, 0) hg]
      have : (cur.toList.take (n * 1))[i]? = (bs.map u8v)[i]? := by rw [ht]
      rw [List.getElem?_take_of_lt (by omega), List.getElem?_map, List.getElem?_eq_getElem hi] at this
      simpa using this
    · rcases Nat.lt_or_ge g w.heap.size with hlt | hge
      · exact hlt
      · rw [Array.getElem?_eq_none hge] at hg; cases hg
theorem own_byt_any {w : World} {base cap n : Nat} {A : Option Addr} {bs : List UInt8} {e : TypeId} (h : w.ownsRow base e 1 (.slice A n cap) n (bs.map u8v)) : Byt w A bs := by
  rcases A with _ | ⟨g, o, s⟩
  · have : n = 0 := by
      rcases h.2 with ⟨_, h0⟩ | ⟨_, _, _, hv, _⟩
      · exact h0
      · cases hv
    have hl := h.1
    rw [List.length_map] at hl
    obtain rfl : bs = [] := List.eq_nil_of_length_eq_zero (by omega)
    exact Byt.nil _ _
  · have hv : s = none ∧ o = 0 := by
      rcases h.2 with ⟨h0, _⟩ | ⟨_, _, _, hv, _⟩
      · cases h0
      · injection hv with hv _ _; injection hv with hv; injection hv with _ h1 h2; exact ⟨h2, h1⟩
    obtain ⟨rfl, rfl⟩ := hv
    exact (own_byt h).1

section
variable {P : Program} (w : World)
theorem run_append_byt (t ty e : TypeId) (i : TypeInfo) (ht : P.underlying t = some (.slice e)) (hi : P.info? e = some i) (hz : i.zero = some (.int .u8 0)) (hsize : i.size = 1) (hby : i.bytes = 1)
    (base : Nat) (v : Value) (xs : List UInt8) (hown : w.ownsRow base e 1 v xs.length (xs.map u8v)) (A : Option Addr) (c : Nat) (ys : List UInt8) (hy : Byt w A ys)
    (hlen : xs.length + ys.length ≤ 140737488355328) (hbase : base ≤ w.heap.size) :
    ∃ A' cap' w', (Builtin.append_ #[t, t] ty #[v, .slice A ys.length c]).run P w = .ok (.slice A' (xs ++ ys).length cap') w' ∧
      w'.ownsRow base e 1 (.slice A' (xs ++ ys).length cap') (xs ++ ys).length ((xs ++ ys).map u8v) ∧ w.grownBy w' v.ownBlock ∧
      ((Value.slice A' (xs ++ ys).length cap').ownBlock = v.ownBlock ∨ (Value.slice A' (xs ++ ys).length cap').ownBlock = some w.heap.size) := by
  have hslice : ∀ (v' : Value) (w' : World), w'.ownsRow base e 1 v' (xs.length + ys.length) ((xs ++ ys).map u8v) → ∃ A' cap', v' = .slice A' (xs ++ ys).length cap' := fun v' w' h => by
    rw [List.length_append]
    rcases h.2 with ⟨rfl, h0⟩ | ⟨g, cap, cur, rfl, _⟩
    · exact ⟨none, 0, by rw [h0]⟩
    · exact ⟨_, _, rfl⟩
  have nilcase : ys = [] → ∀ c, A = none → (Builtin.append_ #[t, t] ty #[v, .slice none 0 c]).run P w = .ok v w := fun _ c _ => by
    rcases hown.2 with ⟨rfl, h0⟩ | ⟨g, cap, cur, rfl, _, _, hnc, _⟩
    · simp [Builtin.append_, run_underlying ht, sizeOf, typeInfo, hi, Builtin.lenOf, Builtin.firstCells]
    · simp [Builtin.append_, run_underlying ht, sizeOf, typeInfo, hi, Builtin.lenOf, Builtin.firstCells, hnc, storeCells]
  rcases A with _ | ad
  · have hys : ys = [] := by
      cases ys with
      | nil => rfl
      | cons y ys => obtain ⟨_, _, h, _⟩ := hy 0 (by simp); cases h
    subst hys
    have hrun := nilcase rfl c rfl
    obtain ⟨A', cap', rfl⟩ := hslice v w (by simpa using hown)
    exact ⟨A', cap', w, hrun, by simpa using hown, World.grownBy.refl w _, .inl rfl⟩
  · have hcells : ∀ j u, (ys.map u8v)[j]? = some u → w.cell? (ad.add j) = some u := by
      cases ys with
      | nil => intro j u hu; simp at hu
      | cons y ys' =>
        obtain ⟨b, o, h, _⟩ := hy 0 (by simp)
        injection h with h; subst h
        exact hy.news
    obtain ⟨v', w', hrun, h2, h3, _, h5⟩ := run_append_own_at (P := P) w base t ty e i (.int .u8 0) 1 1 ht hi hz hsize hby rfl (by omega) v xs.length (xs.map u8v) hown ad ys.length c (ys.map u8v) (by simp) hcells (u8v_one ys) (by unfold maxLen; omega) (by omega) hbase
    rw [← List.map_append] at h2
    obtain ⟨A', cap', rfl⟩ := hslice v' w' h2
    refine ⟨A', cap', w', hrun, ?_, h3, h5⟩
    rwa [← List.length_append] at h2

theorem wpList_append_byt {ops : Array Oper} {rest : List Oper} {o : Oper} {a : Act} {Q : Exit → Act → World → Prop} (hgd : o.guard = none) (s x : Operand) (t : TypeId)
    (ho : o.op = .call { callee := .builtin .append, args := #[s, x], argTypes := #[t, t] })
    (e : TypeId) (i : TypeInfo) (ht : P.underlying t = some (.slice e)) (hi : P.info? e = some i) (hz : i.zero = some (.int .u8 0)) (hsize : i.size = 1) (hby : i.bytes = 1)
    (base : Nat) (v : Value) (xs : List UInt8) (hs : a.eval s = v) (hown : w.ownsRow base e 1 v xs.length (xs.map u8v)) (A : Option Addr) (c : Nat) (ys : List UInt8) (hx : a.eval x = .slice A ys.length c) (hy : Byt w A ys)
    (hlen : xs.length + ys.length ≤ 140737488355328) (hbase : base ≤ w.heap.size)
    (h : ∀ A' cap' w', w'.ownsRow base e 1 (.slice A' (xs ++ ys).length cap') (xs ++ ys).length ((xs ++ ys).map u8v) → w.grownBy w' v.ownBlock →
      ((Value.slice A' (xs ++ ys).length cap').ownBlock = v.ownBlock ∨ (Value.slice A' (xs ++ ys).length cap').ownBlock = some w.heap.size) → wpList P ops Q rest (a.put o.dst (.slice A' (xs ++ ys).length cap')) w') : wpList P ops Q (o :: rest) a w :=
  wpList_plain hgd fun K hK => by
    obtain ⟨A', cap', w', hr, h2, h3, h4⟩ := run_append_byt (P := P) w t o.type e i ht hi hz hsize hby base v xs hown A c ys hy hlen hbase
    unfold Oper.wp execOp
    simp only [ho, resolve, invoke, builtin, Sem.run_bind, Sem.run_pure, Result.andThen_ok, List.map_toArray, List.map_cons, List.map_nil, hs, hx, hr]
    exact hK _ _ (h A' cap' w' h2 h3 h4)
end
/-- A row that no later write hits: what it holds in a later world. -/
theorem own_base {w : World} {base n : Nat} {e : TypeId} {v : Value} {xs : List Value} (h : w.ownsRow base e 1 v n xs) : ∀ k, v.ownBlock = some k → base ≤ k ∧ k < w.heap.size := h.lt
end Go.Proofs.Ytkdfkhebjhnbmaa
