/- Package exec: Kill. -/
import Derived.Test.YtkdfkhebjhnbmaaExeG
import Derived.Test.YtkdfkhebjhnbmaaAppend
import Derived.Test.YtkdfkhebjhnbmaaAppendK
set_option linter.unusedSimpArgs false
set_option linter.unusedVariables false
namespace Go.Proofs.Ytkdfkhebjhnbmaa
open Go.ChangeShapes Go.WideShapes Go.ChangeAt Go.RowKit Go.Base Go.Que Go.Exe

def goC (r : Rn) : List Value := [.string r.key.job, .int .i64 r.key.occ, .int .i64 r.key.host, .int .i64 r.until_]
def cellsR (l : List Rn) : List Value := l.flatMap goC
theorem cellsR_len (l : List Rn) : (cellsR l).length = l.length * 4 := by
  induction l with
  | nil => rfl
  | cons x r ih => simp only [cellsR, List.flatMap_cons, List.length_append, List.length_cons] at ih ⊢; rw [ih]; simp [goC]; omega
theorem cellsR_append (a b : List Rn) : cellsR (a ++ b) = cellsR a ++ cellsR b := List.flatMap_append
theorem cellsR_one (l : List Rn) : ∀ u ∈ cellsR l, u.oneCell' = true := fun u hu => by
  obtain ⟨x, _, h⟩ := List.mem_flatMap.1 hu
  simp only [goC, List.mem_cons, List.not_mem_nil, or_false] at h
  rcases h with rfl | rfl | rfl | rfl <;> rfl
theorem cellsR_at (l : List Rn) (k j : Nat) (h : k < l.length) (hj : j < 4) : (cellsR l)[k * 4 + j]? = (goC l[k])[j]? := by
  have e : cellsR l = cellsR (l.take k) ++ cellsR (l.drop k) := by rw [← cellsR_append, List.take_append_drop]
  have hl : (cellsR (l.take k)).length = k * 4 := by rw [cellsR_len, List.length_take]; omega
  have hd : l.drop k = l[k] :: l.drop (k + 1) := List.drop_eq_getElem_cons h
  rw [e, List.getElem?_append_right (by omega), hl, show k * 4 + j - k * 4 = j by omega, hd]
  unfold cellsR
  rw [List.flatMap_cons, List.getElem?_append_left (by simp [goC]; omega)]
theorem new_going (w : World) (r : Rn) : ∀ i v, (goC r)[i]? = some v → (w.alloc (.cells #[.string r.key.job, .int .i64 r.key.occ, .int .i64 r.key.host, .int .i64 r.until_] 41)).cell? ((⟨w.heap.size, 0, none⟩ : Addr).add i) = some v := fun i v hv => by
  rw [add_off, Nat.zero_add, cell_new, ← Array.getElem?_toList]; exact hv
def slen : Value → Nat
  | .slice _ n _ => n
  | _ => 0
abbrev zGo : Value := .agg #[.string ⟨#[]⟩, .int .i64 0, .int .i64 0, .int .i64 0]
/-- An exec beside a row of runs, of another's blocks. -/
def ExR (F : Nat → Prop) (B : Nat) (w : World) (x : Nat) (slots started : Int) (rest done : List Rn) (A : Option Addr) (c : Nat) : Prop :=
  w.ownsRow B 41 4 (.slice A done.length c) done.length (cellsR done) ∧ ∃ F', EX F' w x slots started rest ∧ (∀ k, F' k → F k ∨ B ≤ k) ∧ ∀ b, (Value.slice A done.length c).ownBlock = some b → ¬ F' b
section
variable {F G K : Nat → Prop} {w w' : World} {x nb gb q n : Nat} {slots started : Int} {L : List Rn} {DN DG : DataW Value}
theorem del_head {r : Rn} {l : List Rn} (h : Ok slots started (r :: l)) : del (r :: l) r.num = l := by
  unfold del
  rw [List.filter_cons, if_neg (by simp), List.filter_eq_self]
  intro a ha
  rw [decide_eq_true_eq]
  intro e
  have h1 := h.nums a (List.mem_cons_of_mem _ ha) r (List.mem_cons_self ..) e
  have h2 := (List.pairwise_cons.1 h.asc).1 a ha
  rw [h1] at h2
  unfold ltR at h2; omega
theorem ts_first {r : Rn} {l : List Rn} (h : Ok slots started (r :: l)) : ∀ u, TS (r :: l) u → u.id ≠ (tmR r).id → lt (tmR r) u := by
  rintro u ⟨a, ha, rfl⟩ hne
  rcases List.mem_cons.1 ha with rfl | ha
  · exact absurd rfl hne
  · have h2 := (List.pairwise_cons.1 h.asc).1 a ha
    unfold ltR at h2
    unfold lt tmR
    simpa using h2
theorem pop_none (h : EX F w x slots started L) {now : Int} (hn : ∀ r ∈ L, now < r.until_) : ∃ q, w.cell? ⟨x, 4, none⟩ = some (.pointer (some ⟨q, 0, none⟩)) ∧
    Calls Try.prog 27 #[.pointer (some ⟨q, 0, none⟩), .int .i64 now] w fun e w' => e = .returned (.tuple #[.agg #[.int .i64 0, .int .i64 0], .bool false]) ∧ (∃ F', EX F' w' x slots started L ∧ ∀ k, F' k → F k ∨ w.heap.size ≤ k) ∧ Moved F w w' := by
  obtain ⟨⟨nb, gb, q, DN, DG, K, hx⟩, hs⟩ := h
  refine ⟨q, hx.cells.2.2.2.2, (popF_not hx.que (fun u ⟨r, hr, e⟩ => by rw [← e]; exact hn r hr)).mono ?_⟩
  rintro e w' ⟨he, ⟨K', hq, hK⟩, hm⟩
  have hxl := heap_lt hx.self
  have hnl : nb < w.heap.size := by obtain ⟨es, clock, hb, _⟩ := hx.nmap; exact heap_lt hb
  have hgl : gb < w.heap.size := by obtain ⟨es, clock, hb, _⟩ := hx.gmap; exact heap_lt hb
  have hK0 : ∀ {k}, k < w.heap.size → K' k → K k := fun {k} hk hk' => (hK k hk').elim id (fun h => by omega)
  have hX : ExX (fun k => F k ∨ w.heap.size ≤ k) w' x slots started L nb gb q DN DG K' :=
    ⟨hx.ok, hm.heap hx.self hx.apart.2.1, own_map_moved hx.nmap hm hx.apart.2.2.1, own_map_moved hx.gmap hm hx.apart.2.2.2, hx.nis, hx.gis, hq, ⟨hx.apart.1, fun h1 => hx.apart.2.1 (hK0 hxl h1), fun h1 => hx.apart.2.2.1 (hK0 hnl h1), fun h1 => hx.apart.2.2.2 (hK0 hgl h1)⟩,
      ⟨.inl hx.inF.1, .inl hx.inF.2.1, .inl hx.inF.2.2.1, fun k hk => (hK k hk).imp (hx.inF.2.2.2 k) id⟩⟩
  refine ⟨he, ⟨_, hX.tight, fun k hk => ?_⟩, hm.weaken (fun k _ hk => hx.inF.2.2.2 k hk)⟩
  rcases hk with rfl | rfl | rfl | hk
  · exact .inl hx.inF.1
  · exact .inl hx.inF.2.1
  · exact .inl hx.inF.2.2.1
  · exact (hK k hk).imp (hx.inF.2.2.2 k) id
/-- The first run leaves. -/
def Left1 (F : Nat → Prop) (x : Nat) (slots started : Int) (r : Rn) (l : List Rn) (w w' : World) : Prop := ∀ o, Calls Try.prog 26 #[.pointer (some ⟨x, 0, none⟩), .int .i64 r.num] (w'.alloc o) fun e2 w2 => e2 = .returned (goV r) ∧ (∃ F', EX F' w2 x slots started l ∧ ∀ k, F' k → F k ∨ w.heap.size ≤ k) ∧ Moved F w w2
theorem pop_one {r : Rn} {l : List Rn} (h : EX F w x slots started (r :: l)) {now : Int} (hn : r.until_ ≤ now) : ∃ q, w.cell? ⟨x, 4, none⟩ = some (.pointer (some ⟨q, 0, none⟩)) ∧
    Calls Try.prog 27 #[.pointer (some ⟨q, 0, none⟩), .int .i64 now] w fun e w' => e = .returned (.tuple #[.agg #[.int .i64 r.until_, .int .i64 r.num], .bool true]) ∧ Left1 F x slots started r l w w' ∧ w.heap.size ≤ w'.heap.size := by
  obtain ⟨⟨nb, gb, q, DN, DG, K, hx⟩, hs⟩ := h
  have hmem : r ∈ r :: l := List.mem_cons_self ..
  have hd := del_head hx.ok
  refine ⟨q, hx.cells.2.2.2.2, (popF_due (m := l.length) hx.que (t := tmR r) ⟨r, hmem, rfl⟩ (ts_first hx.ok) hn).mono ?_⟩
  rintro e w' ⟨he, ⟨K', hq, hK⟩, hm⟩
  refine ⟨he, fun o => ?_, hm.size⟩
  have hq2 := hq.same (ts_del hx.ok hmem)
  have := leave_ex (w1 := w'.alloc o) (K' := K') hx hmem (hm.alloc o) (by rw [hd] at hq2 ⊢; exact hq2.later (below_alloc w' o)) hK
  rw [hd] at this
  exact this
/-- The row takes one more. -/
theorem row_next {F F1 F2 : Nat → Prop} {B : Nat} {w w2 w3 : World} {r : Rn} {l done : List Rn} {A A' : Option Addr} {c c' : Nat} (hF1 : ∀ k, F1 k → F k ∨ B ≤ k) (hs1 : ∀ b, (Value.slice A done.length c).ownBlock = some b → ¬ F1 b ∧ b < w.heap.size) (hB : B ≤ w.heap.size)
    (hx : EX F2 w2 x slots started l) (hF2 : ∀ k, F2 k → F1 k ∨ w.heap.size ≤ k) (hw2 : w.heap.size ≤ w2.heap.size) (o : Obj) (hown : w3.ownsRow B 41 4 (.slice A' (done.length + 1) c') (done.length + 1) (cellsR done ++ goC r)) (hg : (w2.alloc o).grownBy w3 (Value.slice A done.length c).ownBlock)
    (hloc : (Value.slice A' (done.length + 1) c').ownBlock = (Value.slice A done.length c).ownBlock ∨ (Value.slice A' (done.length + 1) c').ownBlock = some (w2.alloc o).heap.size) : ExR F B w3 x slots started l (done ++ [r]) A' c' := by
  have hn2 : ∀ b, (Value.slice A done.length c).ownBlock = some b → ¬ F2 b := fun b hb h => by
    obtain ⟨h1, h2⟩ := hs1 b hb
    rcases hF2 b h with h3 | h3
    · exact h1 h3
    · omega
  refine ⟨?_, F2, ?_, fun k hk => ?_, fun b hb h => ?_⟩
  · rw [List.length_append, cellsR_append]
    simpa [cellsR] using hown
  · exact (hx.later (below_alloc w2 o)).kept (p := fun k => (Value.slice A done.length c).ownBlock = some k) ((Moved.refl _ _).grown hg (fun k _ e => e)) (fun k hk e => hn2 k e hk)
  · rcases hF2 k hk with h | h
    · exact hF1 k h
    · exact .inr (by omega)
  · rw [show (done ++ [r]).length = done.length + 1 by simp] at hb
    rcases hloc with e | e
    · exact hn2 b (e ▸ hb) h
    · rw [e] at hb
      have h1 := Option.some.inj hb
      have h2 := hx.2 b h
      simp at h1
      omega
/-- What Kill leaves. -/
def KillPost (F : Nat → Prop) (x : Nat) (slots started now : Int) (L : List Rn) (w : World) (e : Ending) (w' : World) : Prop :=
  ∃ done rest A c, L = done ++ rest ∧ (∀ r ∈ done, r.until_ ≤ now) ∧ (∀ r ∈ rest, now < r.until_) ∧ e = .returned (.slice A done.length c) ∧ ExR F w.heap.size w' x slots started rest done A c ∧ Moved F w w'
set_option maxHeartbeats 4000000 in
set_option maxRecDepth 20000 in
theorem kill_any (h : EX F w x slots started L) (now : Int) : Calls Try.prog 15 #[.pointer (some ⟨x, 0, none⟩), .int .i64 now] w (KillPost F x slots started now L w) := by
  obtain ⟨i0, hinfo, hz0, hz1, hz2⟩ := info_parts (P := Try.prog) (e := 41) (z := zGo) (size := 4) (bytes := 40) (by kernel_rfl)
  have HL0 : Hid (ExR F w.heap.size w x slots started L [] none 0) := Lib.hid ⟨World.ownsRow_nil _ _ _ _, F, h, fun k hk => .inl hk, fun b hb => by cases hb⟩
  have hfew : L.length ≤ 65536 := by have h1 := h.ok.few; have h2 := h.ok.room; omega
  have HC : Hid (Calls Try.prog 23 #[.pointer (some ⟨x, 0, none⟩)] w fun e w' => e = .returned (.bool false) ∧ w = w') := Lib.hid (by
    obtain ⟨⟨nb, gb, q, DN, DG, K, hx⟩, _⟩ := h
    exact xclosed hx)
  clear h
  go_enter Try.func15, Try.ntmps15
  go_wp2_with (go_at_call 23; refine Calls.mono (by with_reducible exact HC.out) ?_; rintro e w1 ⟨rfl, rfl⟩)
  go_loopw [5] (fun kv wr => ∃ (done rest : List Rn) (A : Option Addr) (c : Nat), kv = .slice A done.length c ∧ Hid (L = done ++ rest) ∧ Hid (∀ r ∈ done, r.until_ ≤ now) ∧ Hid (ExR F w.heap.size wr x slots started rest done A c) ∧ Hid (Moved F w wr)) (fun kv _ => L.length - slen kv)
  case atStart => exact ⟨[], L, none, 0, rfl, Lib.hid rfl, Lib.hid (fun r hr => by cases hr), HL0, Lib.hid (Moved.refl _ _)⟩
  case round =>
    obtain ⟨done, rest, A, c, rfl, HL, HD, HR, HM⟩ := hrel
    obtain ⟨how, F1, hx1, hF1, hdis⟩ := HR.out
    have hB1 := HM.out.size
    have hln := congrArg List.length HL.out
    rw [List.length_append] at hln
    have hsr : Hid (∀ b, (Value.slice A done.length c).ownBlock = some b → ¬ F1 b ∧ b < wr.heap.size) := Lib.hid (fun b hb => ⟨hdis b hb, (how.lt b hb).2⟩)
    by_cases hd : ∃ r l, rest = r :: l ∧ r.until_ ≤ now
    · obtain ⟨r, l, hrl, hru⟩ := hd
      rw [hrl] at hx1
      obtain ⟨q, c4, hp⟩ := pop_one hx1 hru
      have HP := Lib.hid hp
      have HF1 := Lib.hid hF1
      have HO := Lib.hid how
      have HRL := Lib.hid hrl
      have HRU := Lib.hid hru
      have hdl : done.length + 1 ≤ 65536 := by rw [hrl, List.length_cons] at hln; omega
      have HM1 : Hid (∀ V, Moved F1 wr V → Moved F w V) := Lib.hid (fun V hV => HM.out.trans hV (fun k hk h => (hF1 k h).elim id (fun h => by omega)))
      have HDL : Hid (rest.length = l.length + 1) := Lib.hid (by rw [hrl]; rfl)
      clear HR how hx1 hF1 hdis hp hrl hru hln
      obtain ⟨⟨j, o, g⟩, u, num⟩ := r
      go_wp2_with (first
        | (go_at_call 27; refine Calls.mono (by with_reducible exact HP.out) ?_; rintro e w2 ⟨rfl, hl2, hsz2⟩; have HL2 := Lib.hid hl2; clear hl2)
        | (go_at_call 26; refine Calls.mono (HL2.out _) ?_; rintro e w3 ⟨rfl, ⟨F2, hx2, hF2⟩, hm3⟩; have HX2 := Lib.hid hx2; have HF2 := Lib.hid hF2; have HM3 := Lib.hid hm3; have HO3 := Lib.hid (own_moved (p := F1) HO.out (hm3.alloc (.cells #[.string j, .int .i64 o, .int .i64 g, .int .i64 u] 41)) (fun b hb => (hsr.out b hb).1)); have HCe := Lib.hid (new_going w3 ⟨⟨j, o, g⟩, u, num⟩); clear hx2 hF2 hm3)
        | (at_builtin; refine wpList_append_k _ (by rfl) (.tmp 22) (.tmp 27) 38 (by rfl) 41 i0 zGo 4 40 Try.underlying38 hinfo hz0 hz1 hz2 rfl (by decide) w.heap.size (.slice A done.length c) done.length _ (by rfl) HO3.out (some ⟨w3.heap.size, 0, none⟩) 1 1 (goC ⟨⟨j, o, g⟩, u, num⟩) (by rfl) (by rfl) (fun _ => ⟨_, rfl, HCe.out⟩) (fun v hv => by simp only [goC, List.mem_cons, List.not_mem_nil, or_false] at hv; rcases hv with rfl | rfl | rfl | rfl <;> rfl) (by unfold maxLen; omega) (by omega) (by have := HM3.out.size; simp; omega) ?_; intro A4 d4 w4 hown hgrow hloc; have HO4 := Lib.hid hown; have HG4 := Lib.hid hgrow; have HLo := Lib.hid hloc; clear hown hgrow hloc))
      have hlen : (done ++ [(⟨⟨j, o, g⟩, u, num⟩ : Rn)]).length = done.length + 1 := by simp
      refine ⟨⟨done ++ [⟨⟨j, o, g⟩, u, num⟩], l, A4, d4, by rw [hlen], Lib.hid (by rw [HL.out, HRL.out, List.append_assoc]; rfl), Lib.hid (fun r hr => ?_), Lib.hid (row_next HF1.out hsr.out hB1 HX2.out HF2.out HM3.out.size _ HO4.out HG4.out HLo.out), Lib.hid (((HM1.out _ HM3.out).alloc _).grown HG4.out (fun k hk e => by have := (HO.out.lt k e).1; omega))⟩, ?_⟩
      · rcases List.mem_append.1 hr with hr | hr
        · exact HD.out r hr
        · rw [List.mem_singleton] at hr; subst hr; exact HRU.out
      · have h1 := congrArg List.length HL.out
        rw [List.length_append, HDL.out] at h1
        show L.length - (done.length + 1) < L.length - done.length
        omega
    · have hlate : ∀ r ∈ rest, now < r.until_ := by
        intro r hr
        cases rest with
        | nil => cases hr
        | cons a l =>
          have ha : now < a.until_ := by
            have : ¬ a.until_ ≤ now := fun h => hd ⟨a, l, rfl, h⟩
            omega
          rcases List.mem_cons.1 hr with rfl | hr
          · exact ha
          · have := (List.pairwise_cons.1 hx1.ok.asc).1 r hr
            unfold ltR at this; omega
      obtain ⟨q, c4, hp⟩ := pop_none hx1 hlate
      have HP := Lib.hid hp
      have HF1 := Lib.hid hF1
      have HO := Lib.hid how
      have HLa := Lib.hid hlate
      have HM1 : Hid (∀ V, Moved F1 wr V → Moved F w V) := Lib.hid (fun V hV => HM.out.trans hV (fun k hk h => (hF1 k h).elim id (fun h => by omega)))
      clear HR how hx1 hF1 hdis hp hlate hd hln
      go_wp2_with (first
        | (go_at_call 27; refine Calls.mono (by with_reducible exact HP.out) ?_; rintro e w2 ⟨rfl, ⟨F2, hx2, hF2⟩, hm2⟩; have HX2 := Lib.hid hx2; have HF2 := Lib.hid hF2; have HM2 := Lib.hid hm2; clear hx2 hF2 hm2))
      go_ret
      refine ⟨done, rest, A, c, HL.out, HD.out, HLa.out, rfl, ⟨own_moved HO.out (HM2.out.alloc _) (fun b hb => (hsr.out b hb).1), F2, HX2.out.later (below_alloc w2 _), fun k hk => ?_, fun b hb h => ?_⟩, HM1.out _ (HM2.out.alloc _)⟩
      · rcases HF2.out k hk with h | h
        · exact HF1.out k h
        · exact .inr (by omega)
      · obtain ⟨h1, h2⟩ := hsr.out b hb
        rcases HF2.out b h with h3 | h3
        · exact h1 h3
        · omega
end
end Go.Proofs.Ytkdfkhebjhnbmaa
