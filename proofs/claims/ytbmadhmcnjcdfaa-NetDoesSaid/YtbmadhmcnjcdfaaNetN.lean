/- The library's DeleteFunc at packets; Part. -/
import Derived.Test.YtbmadhmcnjcdfaaNetM
import Derived.Test.YtbmadhmcnjcdfaaNetK
set_option linter.unusedSimpArgs false
set_option linter.unusedVariables false
namespace Go.Proofs.Ytbmadhmcnjcdfaa
open Go.ChangeShapes Go.WideShapes Go.ChangeAt Go.RowKit Go.Base Go.Net

section
variable {T : TypeId} {F G : Nat → Prop} {w w1 w' : World} {p : Nat} {s : St} {A : Option Addr} {c n : Nat} {vs : List PkV} {x : PkV}
theorem set_four : ∀ (l : List Value) (k : Nat) (a b c d : Value), k + 4 ≤ l.length → (((l.set k a).set (k + 1) b).set (k + 2) c).set (k + 3) d = l.take k ++ [a, b, c, d] ++ l.drop (k + 4)
  | l, 0, a, b, c, d, h => by
    match l, h with
    | x0 :: x1 :: x2 :: x3 :: t, _ => rfl
  | x :: l, k + 1, a, b, c, d, h => by
    have := set_four l k a b c d (by simp at h; omega)
    show x :: ((((l.set k a).set (k + 1) b).set (k + 2) c).set (k + 3) d) = x :: (l.take k ++ [a, b, c, d] ++ l.drop (k + 4))
    rw [this]
/-- An element is put in a row of the call's own. -/
theorem own_put {b0 g k : Nat} {xs : List Value} (h : w.ownsRow b0 37 4 (.slice (some ⟨g, 0, none⟩) n c) n xs) (hk : k < n) (v0 v1 v2 v3 : Value) :
    ((((w.setCell ⟨g, k * 4, none⟩ v0).setCell ⟨g, k * 4 + 1, none⟩ v1).setCell ⟨g, k * 4 + 2, none⟩ v2).setCell ⟨g, k * 4 + 3, none⟩ v3).ownsRow b0 37 4 (.slice (some ⟨g, 0, none⟩) n c) n (xs.take (k * 4) ++ [v0, v1, v2, v3] ++ xs.drop ((k + 1) * 4)) := by
  have hl := h.1
  have := own_set (own_set (own_set (own_set h (j := k * 4) (by omega) v0) (j := k * 4 + 1) (by omega) v1) (j := k * 4 + 2) (by omega) v2) (j := k * 4 + 3) (by omega) v3
  rw [set_four xs (k * 4) v0 v1 v2 v3 (by omega)] at this
  rw [show (k + 1) * 4 = k * 4 + 4 by omega]
  exact this
/-- A row whose tail was cleared, cut. -/
theorem own_cut {b0 g k : Nat} {xs : List Value} {cur : Array Value} {cs : List Value} (h : w.ownsRow b0 37 4 (.slice (some ⟨g, 0, none⟩) n c) n xs) (hg : w.heap[g]? = some (.cells cur 37 (0, 0))) (hk : k ≤ n) (hcs : cs.length = (n - k) * 4) :
    (w.setRow g (cur.toList.take (k * 4) ++ cs ++ cur.toList.drop (k * 4 + (n - k) * 4)).toArray).ownsRow b0 37 4 (.slice (some ⟨g, 0, none⟩) k c) k (xs.take (k * 4)) := by
  obtain ⟨hl, h2⟩ := h
  rcases h2 with ⟨h0, _⟩ | ⟨g', cap, cur', h0, hb, hg', hn, hc, hs, hx⟩
  · cases h0
  injection h0 with h0 _ h3
  injection h0 with h0; injection h0 with h0
  subst h0; subst h3
  rw [hg] at hg'; injection hg' with hg'; injection hg' with hg'; subst hg'
  refine ⟨by rw [List.length_take]; omega, .inr ⟨g, c, _, rfl, hb, setRow_heap _ g _ _ _ _ hg, by omega, hc, ?_, ?_⟩⟩
  · simp only [List.size_toArray, List.length_append, List.length_take, List.length_drop, Array.length_toList, hs, hcs]; omega
  · have e : cur.toList.take (k * 4) = xs.take (k * 4) := by rw [← hx, List.take_take, Nat.min_eq_left (by omega)]
    rw [e]
    simp only [List.append_assoc]
    rw [List.take_left' (by rw [List.length_take]; omega)]
/-- Those that stay. -/
def leftV (vs : List PkV) (a b : Int) : List PkV := vs.filter (fun x => !btw a b x.p)
theorem leftV_map (vs : List PkV) (a b : Int) : (leftV vs a b).map (·.p) = left (vs.map (·.p)) a b := by
  unfold leftV left
  rw [List.filter_map]; rfl
theorem leftV_snoc (vs : List PkV) (a b : Int) (x : PkV) : leftV (vs ++ [x]) a b = if btw a b x.p = true then leftV vs a b else leftV vs a b ++ [x] := by
  unfold leftV
  rw [List.filter_append]
  by_cases h : btw a b x.p = true
  · rw [if_pos h]; simp [h]
  · rw [if_neg h]; simp [h]
theorem leftV_all {a b : Int} (h : ∀ k (hk : k < vs.length), btw a b vs[k].p = false) : leftV vs a b = vs := List.filter_eq_self.2 (fun x hx => by
  obtain ⟨k, hk, rfl⟩ := List.getElem_of_mem hx
  rw [h k hk]; rfl)
/-- In the middle of DeleteFunc: i stay of the first j. -/
structure Mid (w : World) (b0 g n c i j : Nat) (vs : List PkV) (a b : Int) (xs : List Value) : Prop where
  row : w.ownsRow b0 37 4 (.slice (some ⟨g, 0, none⟩) n c) n xs
  done : xs.take (i * 4) = cellsP (leftV (vs.take j) a b)
  rest : xs.drop (j * 4) = cellsP (vs.drop j)
  len : (leftV (vs.take j) a b).length = i
  lt : i < j
theorem Mid.at_ {b0 g i j : Nat} {a b : Int} {xs : List Value} (h : Mid w b0 g n c i j vs a b xs) (hj : j < vs.length) (hn : n = vs.length) : w.cell? ⟨g, j * 4, none⟩ = some (.int .i64 vs[j].p.id) ∧ w.cell? ⟨g, j * 4 + 1, none⟩ = some (.int .i64 vs[j].p.fr) ∧ w.cell? ⟨g, j * 4 + 2, none⟩ = some (.int .i64 vs[j].p.dst) ∧ w.cell? ⟨g, j * 4 + 3, none⟩ = some vs[j].val := by
  have e : ∀ t, xs[j * 4 + t]? = (cellsP (vs.drop j))[t]? := fun t => by rw [← h.rest, List.getElem?_drop]
  have hd : vs.drop j = vs[j] :: vs.drop (j + 1) := List.drop_eq_getElem_cons hj
  have g0 : ∀ t, t < 4 → w.cell? ⟨g, j * 4 + t, none⟩ = (cellsP (vs.drop j))[t]? := fun t ht => by
    obtain ⟨g', e2, hc⟩ := own_cell h.row rfl (j * 4 + t) (by omega)
    injection e2 with e2; injection e2 with e2; subst e2
    rw [hc, e]
  rw [hd] at g0
  exact ⟨g0 0 (by omega), g0 1 (by omega), g0 2 (by omega), g0 3 (by omega)⟩
theorem Mid.some_ {b0 g i j : Nat} {a b : Int} {xs : List Value} (h : Mid w b0 g n c i j vs a b xs) (t : Nat) (ht : t < n * 4) : (∃ v, w.cell? ⟨g, t, none⟩ = some v) ∧ w.frozen? ⟨g, t, none⟩ = false := by
  obtain ⟨g', e2, hc⟩ := own_cell h.row rfl t ht
  injection e2 with e2; injection e2 with e2; subst e2
  refine ⟨⟨xs[t]'(by rw [h.row.1]; exact ht), by rw [hc]; exact List.getElem?_eq_getElem _⟩, ?_⟩
  rcases h.row.2 with ⟨h0, _⟩ | ⟨g', cap, cur, h0, _, hg, _⟩
  · cases h0
  · injection h0 with h0 _ _; injection h0 with h0; injection h0 with h0; subst h0
    exact (cells_of_heap hg).2 _
theorem Mid.later {b0 g i j : Nat} {a b : Int} {xs : List Value} (h : Mid w b0 g n c i j vs a b xs) (hb : Below w.heap.size w w') : Mid w' b0 g n c i j vs a b xs :=
  ⟨own_moved (p := fun _ => False) h.row (Below.movedNew hb) (fun _ _ h => h), h.done, h.rest, h.len, h.lt⟩
theorem Mid.skip {b0 g i j : Nat} {a b : Int} {xs : List Value} (h : Mid w b0 g n c i j vs a b xs) (hj : j < vs.length) (hb : btw a b vs[j].p = true) : Mid w b0 g n c i (j + 1) vs a b xs := by
  have e : leftV (vs.take (j + 1)) a b = leftV (vs.take j) a b := by rw [List.take_succ_eq_append_getElem hj, leftV_snoc, if_pos hb]
  refine ⟨h.row, by rw [e]; exact h.done, ?_, by rw [e]; exact h.len, by have := h.lt; omega⟩
  rw [show (j + 1) * 4 = j * 4 + 4 by omega, ← List.drop_drop, h.rest, List.drop_eq_getElem_cons hj]
  rfl
theorem Mid.put {b0 g i j : Nat} {a b : Int} {xs : List Value} (h : Mid w b0 g n c i j vs a b xs) (hj : j < vs.length) (hn : n = vs.length) (hb : btw a b vs[j].p = false) :
    ∃ xs2, Mid ((((w.setCell ⟨g, i * 4, none⟩ (.int .i64 vs[j].p.id)).setCell ⟨g, i * 4 + 1, none⟩ (.int .i64 vs[j].p.fr)).setCell ⟨g, i * 4 + 2, none⟩ (.int .i64 vs[j].p.dst)).setCell ⟨g, i * 4 + 3, none⟩ vs[j].val) b0 g n c (i + 1) (j + 1) vs a b xs2 := by
  have hl := h.row.1
  have hi := h.lt
  have e : leftV (vs.take (j + 1)) a b = leftV (vs.take j) a b ++ [vs[j]] := by rw [List.take_succ_eq_append_getElem hj, leftV_snoc, if_neg (by rw [hb]; decide)]
  refine ⟨_, own_put h.row (by omega) _ _ _ _, ?_, ?_, by rw [e, List.length_append, h.len]; rfl, by omega⟩
  · rw [e, cellsP_append, ← h.done, List.take_left' (by simp only [List.length_append, List.length_take, List.length_cons, List.length_nil]; omega)]
    rfl
  · have e2 : (xs.take (i * 4) ++ [Value.int .i64 vs[j].p.id, .int .i64 vs[j].p.fr, .int .i64 vs[j].p.dst, vs[j].val]).length = (i + 1) * 4 := by simp only [List.length_append, List.length_take, List.length_cons, List.length_nil]; omega
    rw [show (j + 1) * 4 = (i + 1) * 4 + (j - i) * 4 by omega, ← List.drop_drop, List.drop_left' e2, List.drop_drop, show (i + 1) * 4 + (j - i) * 4 = j * 4 + 4 by omega, ← List.drop_drop, h.rest, List.drop_eq_getElem_cons hj]
    rfl
def DelfPost (A : Option Addr) (n c : Nat) (ws : List PkV) (b0 : Nat) (w : World) (e : Ending) (w' : World) : Prop :=
  e = .returned (.slice A ws.length c) ∧ w'.ownsRow b0 37 4 (.slice A ws.length c) ws.length (cellsP ws) ∧ Moved (fun j => (Value.slice A n c).ownBlock = some j) w w'
set_option maxHeartbeats 8000000 in
set_option maxRecDepth 20000 in
theorem deletef_any (h : w.ownsRow 0 37 4 (.slice A vs.length c) vs.length (cellsP vs)) (hf : vs.length ≤ 4096) (a b : Int) (ba bb : Nat) (ha : w.cell? ⟨ba, 0, none⟩ = some (.int .i64 a)) (hb : w.cell? ⟨bb, 0, none⟩ = some (.int .i64 b))
    (hga : (Value.slice A vs.length c).ownBlock ≠ some ba) (hgb : (Value.slice A vs.length c).ownBlock ≠ some bb) :
    Calls Try.prog 34 #[.slice A vs.length c, parts ba bb] w (DelfPost A vs.length c (leftV vs a b) 0 w) := by
  have HI := Lib.hid (index_any h hf a b ba bb ha hb)
  have HO := Lib.hid h
  obtain ⟨n, hn⟩ : ∃ n, n = vs.length := ⟨_, rfl⟩
  have HN := Lib.hid hn
  have hcap := rowP_cap h
  rw [← hn] at hf hcap hga hgb HI ⊢
  have hcm := hcap.2
  have hnc := hcap.1
  unfold maxLen at hcm
  clear h hcap
  have HIn : Hid (Calls Try.prog 42 #[.slice A n c, parts ba bb] w fun e w' => (e = .returned (.int .i64 (-1)) ∧ leftV vs a b = vs ∧ Below w.heap.size w w') ∨ ∃ k : Nat, k < n ∧ e = .returned (.int .i64 (k : Int)) ∧ ∃ g, A = some ⟨g, 0, none⟩ ∧ Mid w' 0 g n c k (k + 1) vs a b (cellsP vs) ∧ Below w.heap.size w w') := Lib.hid (HI.out.mono fun e w' ⟨z, he, hz, hbl⟩ => by
    rcases hz with ⟨rfl, h1⟩ | ⟨k, rfl, hk, h1, h2⟩
    · exact .inl ⟨he, leftV_all h1, hbl⟩
    · refine .inr ⟨k, by omega, he, ?_⟩
      obtain ⟨g, rfl, _⟩ := rowP_at HO.out hk
      have e1 : leftV (vs.take (k + 1)) a b = vs.take k := by
        rw [List.take_succ_eq_append_getElem hk, leftV_snoc, if_pos (h2 hk)]
        refine leftV_all (fun j hj => ?_)
        rw [List.length_take] at hj
        rw [List.getElem_take]
        exact h1 j (by omega) (by omega)
      refine ⟨g, rfl, ⟨by rw [hn]; exact own_moved (p := fun _ => False) HO.out (Below.movedNew hbl) (fun _ _ h => h), by rw [e1]; exact cellsP_take vs k (by omega), cellsP_drop vs (k + 1) (by omega), by rw [e1, List.length_take]; omega, by omega⟩, hbl⟩)
  clear HI hn
  go_enter Try.func34, Try.ntmps34
  go_wp2_with (go_at_call 42; refine Calls.mono HIn.out ?_; rintro e w1 (⟨rfl, hle, hbl⟩ | ⟨k, hkn, rfl, g, rfl, hmid, hbl⟩))
  · go_ret
    refine ⟨?_, ?_, Below.movedNew hbl⟩
    · rw [hle, ← HN.out]; rfl
    · rw [hle]; exact own_moved (p := fun _ => False) HO.out (Below.movedNew hbl) (fun _ _ h => h)
  · have HMid := Lib.hid hmid
    have HBl := Lib.hid hbl
    have hgw1 : g < w1.heap.size := (hmid.row.lt g rfl).2
    have HGa : Hid (g ≠ ba ∧ g ≠ bb) := Lib.hid ⟨fun e => hga (by rw [e]; rfl), fun e => hgb (by rw [e]; rfl)⟩
    have HCl := Lib.hid (fun (x : PkV) (V : World) (hV : Moved (fun k => k = g) w V) => part1_any (w := V) x.p.id x.p.fr x.p.dst a b x.val ba bb rfl (hV.cell ha (fun e => HGa.out.1 e.symm)) (hV.cell hb (fun e => HGa.out.2 e.symm)) x.p.body)
    have hkm : ((k : Int) == -1) = false := by simp
    simp only [hkm]
    clear hmid hbl ha hb hga hgb hkm
    go_loopw [5, 6] (fun iv jv wr => ∃ (i j : Nat) (xs : List Value), j ≤ n ∧ i < j ∧ iv = .int .i64 (i : Int) ∧ jv = .int .i64 (j : Int) ∧ Hid (Mid wr 0 g n c i j vs a b xs) ∧ Hid (Moved (fun k => k = g) w wr) ∧ g < wr.heap.size) (fun _ jv _ => n - (intOf jv).toNat)
    case atStart => exact ⟨k, k + 1, cellsP vs, by omega, by omega, rfl, by go_num, HMid, Lib.hid (Below.movedNew HBl.out), hgw1⟩
    case round =>
      obtain ⟨i, j, xs, hjn, hij, rfl, rfl, HM, HW, hgw⟩ := hrel
      have hiz : (0 : Int) ≤ (i : Int) := by omega
      have hjz : (0 : Int) ≤ (j : Int) := by omega
      by_cases hlt : j < n
      · have hlt' : (j : Int) < (n : Int) := by omega
        have hin' : (i : Int) < (n : Int) := by omega
        have hjv : j < vs.length := by rw [← HN.out]; exact hlt
        obtain ⟨r0, r1, r2, r3⟩ := HM.out.at_ hjv HN.out
        have HSk := Lib.hid (fun (V : World) (hV : Below wr.heap.size wr V) (h : btw a b vs[j].p = true) => (HM.out.later hV).skip hjv h)
        have HPt := Lib.hid (fun (V : World) (hV : Below wr.heap.size wr V) (h : btw a b vs[j].p = false) => (HM.out.later hV).put hjv HN.out h)
        have HC := Lib.hid (fun (V : World) (hV : Below wr.heap.size wr V) => HCl.out vs[j] V (HW.out.trans (q := fun _ => False) (Below.movedNew hV) (fun _ _ h => h.elim)))
        have HSo := Lib.hid (fun (V : World) (hV : Below wr.heap.size wr V) (t : Nat) (ht : t < n * 4) => (HM.out.later hV).some_ t ht)
        obtain ⟨z, hz⟩ : ∃ z, z = vs[j] := ⟨_, rfl⟩
        rw [← hz] at r0 r1 r2 r3 HC HSk HPt
        simp only [PkV.val] at r3 HC HPt
        clear hz hjv
        have HB1 := Lib.hid (below_alloc wr (.cells #[.int .i64 z.p.id, .int .i64 z.p.fr, .int .i64 z.p.dst, .slice z.A z.p.body.length z.c] 37))
        by_cases hbt : btw a b z.p = true
        · have HC2 := Lib.hid (fun V hV => (HC.out V hV).mono fun e w' h => show e = .returned (.bool true) ∧ Below V.heap.size V w' from ⟨by rw [h.1]; exact ret_bool hbt, h.2⟩)
          have HS2 := Lib.hid (fun V hV => HSk.out V hV hbt)
          clear hbt
          go_wp2_with (go_at_call 35; refine Calls.mono (HC2.out _ HB1.out) ?_; rintro e w2 ⟨rfl, hb⟩; have HB2 := Lib.hid (HB1.out.trans (hb.mono HB1.out.size)); clear hb)
          go_roundw
          case rel => exact ⟨i, j + 1, xs, by omega, by omega, rfl, by go_num, Lib.hid (HS2.out _ HB2.out), Lib.hid (HW.out.trans (q := fun _ => False) (Below.movedNew HB2.out) (fun _ _ h => h.elim)), by have := HB2.out.size; omega⟩
          case measure => simp [intOf]; omega
        · have hbf : btw a b z.p = false := by simpa using hbt
          have HC2 := Lib.hid (fun V hV => (HC.out V hV).mono fun e w' h => show e = .returned (.bool false) ∧ Below V.heap.size V w' from ⟨by rw [h.1]; exact ret_bool hbf, h.2⟩)
          have HP2 := Lib.hid (fun V hV => HPt.out V hV hbf)
          clear hbt hbf
          go_wp2_with (go_at_call 35; refine Calls.mono (HC2.out _ HB1.out) ?_; rintro e w2 ⟨rfl, hb⟩; have HB2 := Lib.hid (HB1.out.trans (hb.mono HB1.out.size)); have kb := (hb.block _ (heap_lt (heap_new wr (.cells #[.int .i64 z.p.id, .int .i64 z.p.fr, .int .i64 z.p.dst, .slice z.A z.p.body.length z.c] 37)))).trans (heap_new wr (.cells #[.int .i64 z.p.id, .int .i64 z.p.fr, .int .i64 z.p.dst, .slice z.A z.p.body.length z.c] 37)); have u0 := cell_of_row _ _ 0 _ _ _ kb; have u1 := cell_of_row _ _ 1 _ _ _ kb; have u2 := cell_of_row _ _ 2 _ _ _ kb; have u3 := cell_of_row _ _ 3 _ _ _ kb; clear hb kb r0 r1 r2 r3; obtain ⟨⟨o0, y0⟩, q0⟩ := HSo.out w2 HB2.out (i * 4) (by omega); obtain ⟨⟨o1, y1⟩, q1⟩ := HSo.out w2 HB2.out (i * 4 + 1) (by omega); obtain ⟨⟨o2, y2⟩, q2⟩ := HSo.out w2 HB2.out (i * 4 + 2) (by omega); obtain ⟨⟨o3, y3⟩, q3⟩ := HSo.out w2 HB2.out (i * 4 + 3) (by omega))
          obtain ⟨xs2, hm2⟩ := HP2.out w2 HB2.out
          refine ⟨⟨i + 1, j + 1, xs2, by omega, by omega, by go_num, by go_num, Lib.hid hm2, Lib.hid (((((HW.out.trans (q := fun _ => False) (Below.movedNew HB2.out) (fun _ _ h => h.elim)).setCell (.inr rfl) _).setCell (.inr rfl) _).setCell (.inr rfl) _).setCell (.inr rfl) _), ?_⟩, ?_⟩
          · have := HB2.out.size; simp; omega
          · simp [intOf]; omega
      · obtain rfl : j = n := by omega
        have hlt' : ¬ (j : Int) < (j : Int) := by omega
        have hic : ¬ c = i := by omega
        have hil : (i : Int) ≤ (j : Int) := by omega
        have hlc : (j : Int) ≤ (c : Int) := by omega
        have hic2 : (i : Int) ≤ (c : Int) := by omega
        obtain ⟨cs, hcl, hro⟩ : ∃ X : Array Value, (∀ ty, (Builtin.clear_ #[48] ty #[.slice (some ⟨g, i * 4, none⟩) (j - i) (c - i)]).run Try.prog wr = .ok (.tuple #[]) (wr.setRow g X)) ∧ (wr.setRow g X).ownsRow 0 37 4 (.slice (some ⟨g, 0, none⟩) i c) i (cellsP (leftV vs a b)) := by
          obtain ⟨hl, h2⟩ := HM.out.row
          rcases h2 with ⟨h0, _⟩ | ⟨g', cap, cur, h0, hb0, hg, hn0, hc0, hs0, hx0⟩
          · cases h0
          injection h0 with h0 _ h4
          injection h0 with h0; injection h0 with h0
          subst h0; subst h4
          obtain ⟨cs, h1, h2⟩ := run_clear_k (P := Try.prog) wr 48 37 0 zPk 4 Try.underlying48 zeroPk rfl (by decide) (by decide) g (i * 4) (j - i) (c - i) cur 37 hg (by rw [hs0]; omega)
          refine ⟨_, fun ty => h1, ?_⟩
          have := own_cut HM.out.row hg (by omega) h2
          have e3 : vs.take j = vs := List.take_of_length_le (by have := HN.out; omega)
          rw [HM.out.done, e3] at this
          exact this
        have hlen : (leftV vs a b).length = i := by have := HM.out.len; rw [List.take_of_length_le (by have := HN.out; omega)] at this; exact this
        have HRo := Lib.hid hro
        have HLen := Lib.hid hlen
        clear hro hlen
        go_wp2
        go_ret
        refine ⟨by rw [HLen.out]; rfl, by rw [HLen.out]; exact HRo.out, (HW.out.trans (show Moved (fun k => k = g) wr (wr.setRow g cs) from ⟨rfl, rfl, rfl, by simp [World.setRow], fun k _ hn => setRow_other wr g k cs hn⟩) (fun _ _ h => h)).weaken (fun k _ e => by subst e; rfl)⟩
set_option maxHeartbeats 4000000 in
set_option maxRecDepth 20000 in
theorem part_any (h : NetX T w F p s A c vs) (a b : Int) (hk2 : s.lost + 4096 ≤ 9223372036854775807) :
    Calls Try.prog 19 #[.pointer (some ⟨p, 0, none⟩), .int .i64 a, .int .i64 b] w (OpN T F p (partS s a b).2 (.tuple #[.int .i64 (partS s a b).1.1, .int .i64 (partS s a b).1.2]) w) := by
  obtain ⟨W, hW⟩ : ∃ W, W = (w.alloc (.cells #[.int .i64 a] 3)).alloc (.cells #[.int .i64 b] 3) := ⟨_, rfl⟩
  have hB : Below w.heap.size w W := by rw [hW]; exact (below_alloc _ _).alloc (by simp) _
  have k1 : W.heap[w.heap.size]? = some (.cells #[.int .i64 a] 3 (0, 0)) := by rw [hW]; exact heap_old _ (by simp) (heap_new w _)
  have k2 : W.heap[w.heap.size + 1]? = some (.cells #[.int .i64 b] 3 (0, 0)) := by
    rw [hW]; have := heap_new (w.alloc (.cells #[.int .i64 a] 3)) (.cells #[.int .i64 b] 3); simpa using this
  have ca : W.cell? ⟨w.heap.size, 0, none⟩ = some (.int .i64 a) := cell_of_row _ _ 0 _ _ _ k1
  have cb : W.cell? ⟨w.heap.size + 1, 0, none⟩ = some (.int .i64 b) := cell_of_row _ _ 0 _ _ _ k2
  have hX := h.later hB
  have HC := Lib.hid (closed_any hX)
  have HPl := Lib.hid (places_any hX a b)
  have HX0 := Lib.hid h
  have HX := Lib.hid hX
  have HB := Lib.hid hB
  have HW := Lib.hid hW
  have g1 := h.good.lost0
  have hfew := h.few
  have HD := Lib.hid (deletef_any hX.row hX.few a b w.heap.size (w.heap.size + 1) ca cb (fun e => by have := (h.row.lt _ e).2; omega) (fun e => by have := (h.row.lt _ e).2; omega))
  obtain ⟨e0, e1, e2, e3⟩ := hX.cells
  by_cases hP : isP s a ∧ isP s b
  · have hab : areB s a b = true := decide_eq_true hP
    rw [hab] at HPl
    have HE : Hid (partS s a b = (((s.l.length : Int) - ((left s.l a b).length : Int), 0), { s with l := left s.l a b, lost := s.lost + ((s.l.length : Int) - ((left s.l a b).length : Int)) })) := Lib.hid (by unfold partS; rw [if_neg (fun h => h hP)])
    have hln : (leftV vs a b).length = (left s.l a b).length := by rw [← h.is, ← leftV_map, List.length_map]
    obtain ⟨m, hm⟩ : ∃ m, m = (leftV vs a b).length := ⟨_, rfl⟩
    obtain ⟨n, hn⟩ : ∃ n, n = vs.length := ⟨_, rfl⟩
    have hmn : m ≤ n := by rw [hm, hn]; exact List.length_filter_le _ _
    have hnl : n = s.l.length := by rw [hn]; exact h.len
    have hml : m = (left s.l a b).length := by rw [hm]; exact hln
    rw [← hnl, ← hml] at HE
    have HD2 : Hid (Calls Try.prog 34 #[.slice A n c, parts w.heap.size (w.heap.size + 1)] W fun e w' => e = .returned (.slice A m c) ∧ w'.heap[p]? = some (.cells #[.int .i64 s.places, .slice A n c, .int .i64 s.last, .int .i64 s.lost] T (0, 0)) ∧ Moved F W w' ∧
        NT T (fun k => F k ∨ w.heap.size ≤ k) ((w'.setCell ⟨p, 1, none⟩ (.slice A m c)).setCell ⟨p, 3, none⟩ (.int .i64 (s.lost + ((n : Int) - (m : Int))))) p (partS s a b).2) := Lib.hid (by
      have hD := HD.out
      rw [← hn] at hD
      refine hD.mono fun e w' ⟨he, hr, hmv⟩ => ?_
      rw [← hm] at he hr
      have hp : w'.heap[p]? = some (.cells #[.int .i64 s.places, .slice A n c, .int .i64 s.last, .int .i64 s.lost] T (0, 0)) := by
        have h1 := hmv.heap hX.self (fun e => own_ne (by rw [hn]; exact hX.row) hX.self (Ne.symm hX.ty.1) e)
        rw [← hn] at h1; exact h1
      refine ⟨he, hp, hmv.weaken (fun j _ e => hX.inF.2 j (by rw [← hn]; exact e)), A, c, leftV vs a b, ?_⟩
      have hg := good_part h.good a b
      have hb3 : ∀ x ∈ vs, BodV w' F x := fun x hx2 => by
        have hb2 := hX.bod x hx2
        exact ⟨own_moved hb2.1 hmv (fun j hj e => by
          rcases own_parts hb2.1 hX.row (by decide) with h1 | h1
          · rw [h1] at hj; cases hj
          · rw [hn] at e; exact h1 (hj.trans e.symm)), hb2.2⟩
      rw [HE.out] at hg ⊢
      have hp1 := heap_set hp 1 (.slice A m c)
      refine ⟨hg, ?_, ?_, ?_, ⟨.inl h.inF.1, fun j hj => .inl (hX.inF.2 j ?_)⟩, fun x hx => ?_, h.ty⟩
      · show (leftV vs a b).map (·.p) = left s.l a b
        rw [leftV_map, h.is]
      · rw [← hm, heap_set hp1 3 _]; rfl
      · rw [← hm]; exact own_setSelf (own_setSelf hr hp hX.ty.1 _) hp1 hX.ty.1 _
      · rw [← hm] at hj
        rcases A with _ | ad
        · cases hj
        · exact hj
      · exact (((hb3 x (List.filter_sublist.subset hx)).wide (fun k hk => .inl hk)).setSelf hp hX.ty.2 _).setSelf hp1 hX.ty.2 _)
    rw [← hn] at e1 hfew
    have hpl : p < w.heap.size := h.lt
    have hpW : p < W.heap.size := hX.lt
    clear h hX hP hab hB hW k1 k2 hln hm hn hnl hml HD
    go_enter Try.func19, Try.ntmps19
    go_wp2_with (first
      | rw [← HW.out]
      | (go_at_call 26; refine Calls.mono HC.out ?_; rintro e w1 ⟨rfl, rfl⟩)
      | (go_at_call 27; refine Calls.mono HPl.out ?_; rintro e w1 ⟨rfl, rfl⟩)
      | (go_at_call 34; refine Calls.mono HD2.out ?_; rintro e w3 ⟨rfl, hp3, hm3, hn3⟩; have p1 := cell_of_row _ _ 1 _ _ _ hp3; have p3 := cell_of_row _ _ 3 _ _ _ hp3; have f1 := (cells_of_heap hp3).2 1; have f3 := (cells_of_heap hp3).2 3; have HM3 := Lib.hid hm3; have HN3 := Lib.hid hn3; clear hp3 hm3 hn3))
    go_ret2
    refine ⟨by rw [HE.out]; rfl, HN3.out, (((Below.movedNew HB.out).trans HM3.out (fun _ _ h => h)).setCell (.inr HX0.out.inF.1) _).setCell (.inr HX0.out.inF.1) _⟩
  · have hab : areB s a b = false := decide_eq_false hP
    rw [hab] at HPl
    have HE : Hid (partS s a b = ((0, 1), s)) := Lib.hid (by unfold partS; rw [if_pos hP])
    clear h hX hP hab hB hW k1 k2 HD
    go_enter Try.func19, Try.ntmps19
    go_wp2_with (first
      | rw [← HW.out]
      | (go_at_call 26; refine Calls.mono HC.out ?_; rintro e w1 ⟨rfl, rfl⟩)
      | (go_at_call 27; refine Calls.mono HPl.out ?_; rintro e w1 ⟨rfl, rfl⟩))
    go_ret2
    rw [HE.out]
    exact ⟨rfl, HX0.out.stay HB.out, Below.movedNew HB.out⟩
end
end Go.Proofs.Ytbmadhmcnjcdfaa
