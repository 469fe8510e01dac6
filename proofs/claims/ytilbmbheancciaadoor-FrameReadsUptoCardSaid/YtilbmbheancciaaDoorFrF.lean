/- Walks of package frame: Put, over the library's Concat and Grow. -/
import Derived.Test.YtilbmbheancciaaDoorFrE
import Derived.Deep.DeepAppendRoom
import Derived.Lib.AppendZerosOnto
set_option linter.unusedSimpArgs false
set_option linter.unusedVariables false
namespace Go.Proofs.YtilbmbheancciaaDoor
open Go.ChangeShapes Go.WideShapes Go.ChangeAt Go.RowKit Go.Base Go.Mx Go.Fr

section
variable {P : Program} (w : World)
/-- Bytes appended to a row of the call's own that has room for them, whatever the source. -/
theorem run_append_spare (t ty e : TypeId) (i : TypeInfo) (ht : P.underlying t = some (.slice e)) (hi : P.info? e = some i) (hsize : i.size = 1)
    (base g cap : Nat) (xs : List UInt8) (n : Nat) (hown : w.ownsRow base e 1 (.slice (some ⟨g, 0, none⟩) n cap) n (xs.map u8v)) (A : Option Addr) (c : Nat) (ys : List UInt8) (hy : Byt w A ys) (hroom : n + ys.length ≤ cap) :
    ∃ w', (Builtin.append_ #[t, t] ty #[.slice (some ⟨g, 0, none⟩) n cap, .slice A ys.length c]).run P w = .ok (.slice (some ⟨g, 0, none⟩) (n + ys.length) cap) w' ∧
      w'.ownsRow base e 1 (.slice (some ⟨g, 0, none⟩) (n + ys.length) cap) (n + ys.length) ((xs ++ ys).map u8v) ∧ w.grownBy w' (some g) := by
  rcases A with _ | ad
  · have hys : ys = [] := by
      cases ys with
      | nil => rfl
      | cons y ys => obtain ⟨_, _, h, _⟩ := hy 0 (by simp); cases h
    subst hys
    have hrun : (Builtin.append_ #[t, t] ty #[.slice (some ⟨g, 0, none⟩) n cap, .slice none 0 c]).run P w = .ok (.slice (some ⟨g, 0, none⟩) n cap) w := by
      have hnc : n ≤ cap := by simpa using hroom
      simp [Builtin.append_, run_underlying ht, sizeOf, typeInfo, hi, Builtin.lenOf, Builtin.firstCells, hnc, storeCells]
    exact ⟨w, hrun, by simpa using hown, World.grownBy.refl w _⟩
  · have hcells : ∀ j u, (ys.map u8v)[j]? = some u → w.cell? (ad.add j) = some u := by
      cases ys with
      | nil => intro j u hu; simp at hu
      | cons y ys' =>
        obtain ⟨b, o, h, _⟩ := hy 0 (by simp)
        injection h with h; subst h
        exact hy.news
    obtain ⟨w', h1, h2, h3⟩ := run_append_own_spare (P := P) w base t ty e i 1 ht hi hsize g n cap (xs.map u8v) hown ad ys.length c (ys.map u8v) (by simp) hcells (u8v_one ys) hroom
    exact ⟨w', h1, by rw [List.map_append]; exact h2, h3⟩
theorem wpList_append_spare {ops : Array Oper} {rest : List Oper} {o : Oper} {a : Act} {Q : Exit → Act → World → Prop} (hgd : o.guard = none) (s x : Operand) (t : TypeId)
    (ho : o.op = .call { callee := .builtin .append, args := #[s, x], argTypes := #[t, t] })
    (e : TypeId) (i : TypeInfo) (ht : P.underlying t = some (.slice e)) (hi : P.info? e = some i) (hsize : i.size = 1)
    (base g cap : Nat) (xs : List UInt8) (n : Nat) (hs : a.eval s = .slice (some ⟨g, 0, none⟩) n cap) (hown : w.ownsRow base e 1 (.slice (some ⟨g, 0, none⟩) n cap) n (xs.map u8v)) (A : Option Addr) (c : Nat) (ys : List UInt8) (hx : a.eval x = .slice A ys.length c) (hy : Byt w A ys) (hroom : n + ys.length ≤ cap)
    (h : ∀ w', w'.ownsRow base e 1 (.slice (some ⟨g, 0, none⟩) (n + ys.length) cap) (n + ys.length) ((xs ++ ys).map u8v) → w.grownBy w' (some g) → wpList P ops Q rest (a.put o.dst (.slice (some ⟨g, 0, none⟩) (n + ys.length) cap)) w') : wpList P ops Q (o :: rest) a w :=
  wpList_plain hgd fun K hK => by
    obtain ⟨w', hr, h2, h3⟩ := run_append_spare (P := P) w t o.type e i ht hi hsize base g cap xs n hown A c ys hy hroom
    unfold Oper.wp execOp
    simp only [ho, resolve, invoke, builtin, Sem.run_bind, Sem.run_pure, Result.andThen_ok, List.map_toArray, List.map_cons, List.map_nil, hs, hx, hr]
    exact hK _ _ (h w' h2 h3)
end
def GrowPost (n : Nat) (w : World) (e : Ending) (w' : World) : Prop := ∃ G, e = .returned (.slice (some ⟨w.heap.size, 0, none⟩) 0 G) ∧ n ≤ G ∧ w'.ownsRow w.heap.size 5 1 (.slice (some ⟨w.heap.size, 0, none⟩) 0 G) 0 [] ∧ Below w.heap.size w w' ∧ G ≤ maxLen
set_option maxHeartbeats 2000000 in
theorem grow_any (n : Nat) (w : World) (h0 : 0 < n) (h48 : n ≤ 281474976710656) :
    Calls Tryd.prog 28 #[.slice none 0 0, .int .i64 n] w (GrowPost n w) := by
  obtain ⟨i0, hi0, hz0, hz1, hz2⟩ := info_parts u8_info
  have hrz : ∀ ty, (Builtin.append_ #[22, 3] ty #[.slice none 0 0, .int .i64 (n : Int)]).run Tryd.prog w =
      .ok (.slice (some ⟨w.heap.size, 0, none⟩) n (grownCap w n 0 5)) (w.drew.alloc (.cells (#[] ++ Builtin.zeroCells (Value.int .u8 0).cells n ++ Builtin.zeroCells (Value.int .u8 0).cells (grownCap w n 0 5 - n)) 5)) := fun ty => by
    have h := Lib.run_append_grow_zeros w 22 3 ty 5 i0 (.int .u8 0) .i64 .i64 Tryd.underlying22 Tryd.underlying3 hi0 hz0 none 0 0 [] (by simp [Builtin.firstCells]) n h0 (by omega) (by omega) (by omega) (by rw [hz2]; omega)
      (by rw [hz2]; unfold Builtin.nextslicecap; rw [if_pos (by omega)]; omega)
    rw [Nat.zero_add] at h
    exact h
  have hGn : n ≤ grownCap w n 0 5 := grownCap_ge w _ _ _
  have hGm := grownCap_le_maxLen w n 0 5 (by unfold maxLen; omega)
  generalize grownCap w n 0 5 = G at *
  have hG63 : G ≤ 9223372036854775807 := by unfold maxLen at hGm; omega
  have hcells : (#[] ++ Builtin.zeroCells (Value.int .u8 0).cells n ++ Builtin.zeroCells (Value.int .u8 0).cells (G - n) : Array Value).size = G * 1 := by
    simp [Builtin.zeroCells, Value.cells]; omega
  generalize (#[] ++ Builtin.zeroCells (Value.int .u8 0).cells n ++ Builtin.zeroCells (Value.int .u8 0).cells (G - n) : Array Value) = Z at *
  have HZ := Lib.hid hcells
  have HM := Lib.hid hGm
  have h0' : (0 : Int) < (n : Int) := by omega
  have hn63 : (n : Int) ≤ 9223372036854775807 := by omega
  have hng : ¬ ((n : Int) < 0) := by omega
  have hGn' : (n : Int) ≤ (G : Int) := by omega
  clear hcells hGm
  go_enter Tryd.func28, Tryd.ntmps28
  go_wp2_with (at_builtin; refine Lib.wpList_append_run _ rfl _ _ _ _ rfl _ _ rfl rfl _ _ (hrz _) ?_)
  go_ret
  exact ⟨G, rfl, hGn, World.ownsRow_made w.drew Z G (Nat.le_refl _) HM.out HZ.out, (Below.refl _ _).drew.alloc (Nat.le_refl _) _, HM.out⟩
/-- How many bytes stand in the first parts. -/
def totB (l : List (List UInt8)) (k : Nat) : Nat := ((l.take k).flatten).length
theorem flat_succ {l : List (List UInt8)} {k : Nat} (hk : k < l.length) : (l.take (k + 1)).flatten = (l.take k).flatten ++ l[k] := by
  rw [List.take_succ_eq_append_getElem hk, List.flatten_append, List.flatten_cons, List.flatten_nil, List.append_nil]
theorem totB_succ {l : List (List UInt8)} {k : Nat} (hk : k < l.length) : totB l (k + 1) = totB l k + l[k].length := by
  unfold totB; rw [flat_succ hk, List.length_append]
theorem totB_le (l : List (List UInt8)) (k : Nat) : totB l k ≤ l.flatten.length := by
  unfold totB
  conv => rhs; rw [← List.take_append_drop k l]
  rw [List.flatten_append, List.length_append]; omega
theorem totB_all (l : List (List UInt8)) : totB l l.length = l.flatten.length := by unfold totB; rw [List.take_length]
theorem Parts.later {w w' : World} {p : Option Addr} {l : List (List UInt8)} (h : Parts w p l) (hb : Below w.heap.size w w') : Parts w' p l := fun i hi => by
  obtain ⟨b, o, a, cap, e, c, hy, hm⟩ := h i hi
  exact ⟨b, o, a, cap, e, cell_later hb c, hy.later hb, hm⟩
def CatPost (l : List (List UInt8)) (w : World) (e : Ending) (w' : World) : Prop := ∃ g G, e = .returned (.slice (some ⟨g, 0, none⟩) l.flatten.length G) ∧ w.heap.size ≤ g ∧ w'.ownsRow w.heap.size 5 1 (.slice (some ⟨g, 0, none⟩) l.flatten.length G) l.flatten.length (l.flatten.map u8v) ∧ Below w.heap.size w w' ∧ l.flatten.length ≤ G ∧ G ≤ maxLen
set_option maxHeartbeats 4000000 in
theorem concat_any (p : Option Addr) (l : List (List UInt8)) (n c : Nat) (w : World) (hn : l.length = n) (hP : Parts w p l) (h0 : 0 < l.flatten.length) (h48 : l.flatten.length ≤ 281474976710656) (hm : n ≤ 1000000) :
    Calls Tryd.prog 19 #[.slice p n c] w (CatPost l w) := by
  obtain ⟨i0, hi0, hz0, hz1, hz2⟩ := info_parts u8_info
  have HP := Lib.hid hP
  have HN := Lib.hid hn
  have HGr := Lib.hid (fun V => grow_any l.flatten.length V h0 h48)
  have HTl := Lib.hid (totB_le l)
  have HTa := Lib.hid (totB_all l)
  have HT0 : Hid (totB l 0 = 0) := Lib.hid (by unfold totB; simp)
  have hn' : (n : Int) ≤ 1000000 := by omega
  generalize htl : l.flatten.length = T at *
  have HTL := Lib.hid htl
  have hT' : (T : Int) ≤ 281474976710656 := by omega
  clear hP hn htl
  go_enter Tryd.func19, Tryd.ntmps19
  go_wp2
  go_loop [3, 11] (fun s i => ∃ k : Nat, k ≤ n ∧ i = .int .i64 (k : Int) ∧ s = .int .i64 (totB l k : Nat)) (fun _ i => n - (intOf i).toNat)
  case atStart => exact ⟨0, Nat.zero_le _, rfl, by rw [HT0.out]; rfl⟩
  case round =>
    obtain ⟨k, hk, rfl, rfl⟩ := hrel
    have htk := HTl.out k
    have htk' : (totB l k : Int) ≤ 281474976710656 := by omega
    by_cases hlt : k < n
    · have hlt' : (k : Int) < (n : Int) := by omega
      have hk0 : (0 : Int) ≤ (k : Int) := by omega
      have hkl : k < l.length := by have := HN.out; omega
      obtain ⟨b, o, a, cap, rfl, hc, hby, hml⟩ := HP.out k hkl
      have HS := Lib.hid (totB_succ hkl)
      have hs1 := HTl.out (k + 1)
      rw [HS.out] at hs1
      generalize l[k].length = m at *
      generalize totB l k = t at *
      clear hby hml hkl
      have hw : IntKind.i64.wrap ((t : Int) + (m : Int)) = (t : Int) + (m : Int) := by rw [IntKind.wrap_i64]; omega
      have hnn : ¬ ((t : Int) + (m : Int) < 0) := by omega
      have ht63 : (t : Int) + (m : Int) ≤ 9223372036854775807 := by omega
      go_wp2
      go_round
      case rel => exact ⟨k + 1, by omega, by go_num, by rw [HS.out]; go_num⟩
      case measure => simp [intOf]; omega
    · obtain rfl : k = n := by omega
      have HTn : Hid (totB l k = T) := Lib.hid (by have := HTa.out; rw [HN.out] at this; exact this)
      rw [HTn.out]
      go_wp2_with (go_at_call 28; refine Calls.mono (by with_reducible exact HGr.out _) ?_; rintro e w1 ⟨G, rfl, hGn, hown, hb, hgm⟩; have HO := Lib.hid hown; have HB1 := Lib.hid hb; have HGm := Lib.hid hgm; clear hown hb hgm)
      go_loopw [6, 27] (fun v i wr => ∃ j : Nat, j ≤ k ∧ i = .int .i64 (j : Int) ∧ v = .slice (some ⟨w.heap.size, 0, none⟩) (totB l j) G ∧ Hid (wr.ownsRow w.heap.size 5 1 (.slice (some ⟨w.heap.size, 0, none⟩) (totB l j) G) (totB l j) ((l.take j).flatten.map u8v)) ∧ Hid (Below w.heap.size w wr)) (fun _ i _ => k - (intOf i).toNat)
      case atStart => exact ⟨0, Nat.zero_le _, rfl, by rw [HT0.out], Lib.hid (by rw [HT0.out]; simpa using HO.out), HB1⟩
      case round =>
        obtain ⟨j, hj, rfl, rfl, HOj, HBj⟩ := hrel
        have htj := HTl.out j
        by_cases hlt : j < k
        · have hlt' : (j : Int) < (k : Int) := by omega
          have hj0 : (0 : Int) ≤ (j : Int) := by omega
          have hjl : j < l.length := by have := HN.out; omega
          obtain ⟨b, o, a, cap, rfl, hc, hby, hml⟩ := (HP.out.later HBj.out) j hjl
          have HS := Lib.hid (totB_succ hjl)
          have HFl := Lib.hid (flat_succ hjl)
          have hs1 := HTl.out (j + 1)
          rw [HS.out] at hs1
          have HY := Lib.hid hby
          generalize l[j] = y at *
          generalize totB l j = t at *
          clear hby hml hjl
          go_wp2_with (at_builtin; refine wpList_append_spare _ rfl (.tmp 31) (.tmp 32) 22 rfl 5 i0 Tryd.underlying22 hi0 hz1 w.heap.size w.heap.size G (l.take j).flatten t rfl HOj.out a cap y rfl HY.out (by omega) ?_; intro w5 hown5 hgrow5; have HO5 := Lib.hid hown5; have HB5 := Lib.hid (HBj.out.grown hgrow5 HBj.out.size (fun q e => by injection e with e; exact Nat.le_of_eq e)); clear hown5 hgrow5)
          go_roundw
          case rel => exact ⟨j + 1, by omega, by go_num, by rw [HS.out], Lib.hid (by rw [HS.out, HFl.out]; exact HO5.out), HB5⟩
          case measure => simp [intOf]; omega
        · obtain rfl : j = k := by omega
          go_wp2
          go_ret
          have hO := HOj.out
          rw [HTn.out, show l.take j = l by rw [← HN.out, List.take_length]] at hO
          refine ⟨w.heap.size, G, by rw [HTn.out, HTL.out]; rfl, Nat.le_refl _, by rw [HTL.out]; exact hO, HBj.out, by rw [HTL.out]; exact hGn, HGm.out⟩
end Go.Proofs.YtilbmbheancciaaDoor
