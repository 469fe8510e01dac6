/- Walks of package store: outlasting. -/
import Derived.Test.YtobgiialecgpnaaStoL
import Derived.BigQuiet
import Derived.Deep.QuietTactic
import Derived.Deep.RegionHeld3
import Derived.WalkSmall
set_option linter.unusedSimpArgs false
set_option linter.unusedVariables false
namespace Go.Sto
/-- Of the names that were said: how many bytes are to last. -/
def lastOf (acc : List (List UInt8 × Int)) (s : List UInt8) : Int := ((acc.find? (fun k => k.1 == s)).map (·.2)).getD 0
def saidIn (acc : List (List UInt8 × Int)) (s : List UInt8) : Bool := acc.any (fun k => k.1 == s)
/-- May these last? -/
def outR (files : List Fil) : List (ByteArray × Int) → List (List UInt8 × Int) → Option (List (List UInt8 × Int))
  | [], acc => some acc
  | k :: ks, acc => match look files k.1.data.toList with
    | none => none
    | some f => if saidIn acc k.1.data.toList = true ∨ k.2 < 0 ∨ (f.bytes.length : Int) - (f.sure : Int) < k.2 then none else outR files ks (acc ++ [(k.1.data.toList, k.2)])
theorem lastOf_snoc {acc : List (List UInt8 × Int)} {n : List UInt8} {z : Int} (h : saidIn acc n = false) (s : List UInt8) : lastOf (acc ++ [(n, z)]) s = if s = n then z else lastOf acc s := by
  unfold lastOf
  rw [List.find?_append]
  by_cases e : s = n
  · subst e
    have : acc.find? (fun k => k.1 == s) = none := by
      rw [List.find?_eq_none]
      intro k hk
      unfold saidIn at h
      rw [List.any_eq_false] at h
      exact h k hk
    rw [this, if_pos rfl]; simp
  · rw [if_neg e]
    have : ([(n, z)] : List (List UInt8 × Int)).find? (fun k => k.1 == s) = none := by
      rw [List.find?_eq_none]; intro k hk; rw [List.mem_singleton.1 hk]; simpa using fun h => e h.symm
    rw [this]; simp
theorem saidIn_snoc (acc : List (List UInt8 × Int)) (n : List UInt8) (z : Int) (s : List UInt8) : saidIn (acc ++ [(n, z)]) s = (saidIn acc s || decide (n = s)) := by
  unfold saidIn
  simp only [List.any_append, List.any_cons, List.any_nil, Bool.or_false]
  congr 1
  rw [Bool.eq_iff_iff]; simp
end Go.Sto
namespace Go.Proofs.Ytobgiialecgpnaa
open Go.ChangeShapes Go.WideShapes Go.ChangeAt Go.RowKit Go.Base Go.Sto Go.Maps

/-- What is to last, as a map of the call's own. -/
def Lst (w : World) (lm : Nat) (acc : List (List UInt8 × Int)) : Prop :=
  ∃ D : DataW Unit, w.ownsMap Try.prog 9 (plainElem Try.prog 3) lm (Maps.size D) D ∧ Maps.size D ≤ acc.length ∧ (∀ s, Maps.has D (.string s) = saidIn acc s) ∧ ∀ s, D.atKey (.string s) (.lit (.int .i64 0)) = .lit (.int .i64 (lastOf acc s))
/-- The things said of a crash. -/
def Kepts (w : World) (A : Option Addr) (ks : List (ByteArray × Int)) : Prop := ∀ (i : Nat) (h : i < ks.length), ∃ g o, A = some ⟨g, o, none⟩ ∧ w.cell? ⟨g, o + i * 2, none⟩ = some (.string ks[i].1) ∧ w.cell? ⟨g, o + i * 2 + 1, none⟩ = some (.int .i64 ks[i].2) ∧ ks[i].1.size ≤ maxLen ∧ -9223372036854775808 ≤ ks[i].2 ∧ ks[i].2 ≤ 9223372036854775807
theorem Kepts.later {w w' : World} {A : Option Addr} {ks : List (ByteArray × Int)} (h : Kepts w A ks) (hb : Below w.heap.size w w') : Kepts w' A ks := fun i hi => by
  obtain ⟨g, o, e, c0, c1, m⟩ := h i hi
  exact ⟨g, o, e, cell_later hb c0, cell_later hb c1, m⟩
theorem own_map_later {w w' : World} {R : Value → Option (DataW Unit × List MemPlace)} {lm n : Nat} {D : DataW Unit} (h : w.ownsMap Try.prog 9 R lm n D) (hb : Below w.heap.size w w') : w'.ownsMap Try.prog 9 R lm n D := by
  obtain ⟨E, clock, hbm, r⟩ := h
  exact ⟨E, clock, (hb.block _ (heap_lt hbm)).trans hbm, r⟩
theorem Lst.later {w w' : World} {lm : Nat} {acc : List (List UInt8 × Int)} (h : Lst w lm acc) (hb : Below w.heap.size w w') : Lst w' lm acc := by
  obtain ⟨D, h1, h2⟩ := h
  exact ⟨D, own_map_later h1 hb, h2⟩
theorem Lst.start (w : World) : Lst (w.alloc (.map #[] 0)) w.heap.size [] := ⟨.map [], World.ownsMap_made w _ _ _, Nat.le_refl _, (fun s => rfl), (fun s => rfl)⟩
theorem zeroInt (w : World) : (zeroValue 3).run Try.prog w = .ok (.int .i64 0) w := by kernel_rfl
set_option maxRecDepth 20000 in
theorem Lst.look {w : World} {lm : Nat} {acc : List (List UInt8 × Int)} (h : Lst w lm acc) {s : ByteArray} (hs : s.size ≤ maxLen) (c : Bool) :
    (Instr.lookup 77 (.map (some lm)) (.string s) c).run Try.prog w = .ok (if c then .tuple #[.int .i64 (lastOf acc s.data.toList), .bool (saidIn acc s.data.toList)] else .int .i64 (lastOf acc s.data.toList)) w := by
  obtain ⟨D, h1, _, h3, h4⟩ := h
  cases c
  · obtain ⟨v, ps, hrun, hv⟩ := h1.lookup law_str Try.underlying77 (zeroInt w) (plainElem_int Try.underlying3 (by decide)) (key_str hs)
    rw [h4] at hv
    obtain ⟨a, rfl, hz, _⟩ := plainElem_int_inv Try.underlying3 hv
    injection hz with hz; injection hz with hz; injection hz with _ hz
    rw [hrun, ← hz]; rfl
  · obtain ⟨v, ps, hrun, hv⟩ := h1.look_ok law_str Try.underlying77 (zeroInt w) (plainElem_int Try.underlying3 (by decide)) (key_str hs)
    rw [h4] at hv
    obtain ⟨a, rfl, hz, _⟩ := plainElem_int_inv Try.underlying3 hv
    injection hz with hz; injection hz with hz; injection hz with _ hz
    rw [hrun, ← hz, h3]; rfl
section
variable {w w1 w' : World} {F G : Nat → Prop} {p bm : Nat} {D : DataW Unit} {es : List Ent} {room : Nat} {left : Int}
theorem StoX.look_hit (h : StoX w F p bm D es room left) {e : Ent} (he : e ∈ es) {s : ByteArray} (hs : s.size ≤ maxLen) (hn : e.f.name = s.data.toList) (c : Bool) :
    (Instr.lookup 56 (.map (some bm)) (.string s) c).run Try.prog w = .ok (if c then .tuple #[.pointer (some ⟨e.a, 0, none⟩), .bool true] else .pointer (some ⟨e.a, 0, none⟩)) w := by
  cases c
  · obtain ⟨v, ps, hrun, hv⟩ := h.map.lookup law_str Try.underlying56 (zeroPtr w) ptrE_none (key_str hs)
    rw [← hn, h.at_ e he] at hv
    obtain rfl := ptrE_inv hv
    exact hrun
  · obtain ⟨v, ps, hrun, hv⟩ := h.map.look_ok law_str Try.underlying56 (zeroPtr w) ptrE_none (key_str hs)
    rw [← hn, h.at_ e he] at hv
    obtain rfl := ptrE_inv hv
    have : Maps.has D (.string s.data.toList) = true := (h.has _).2 ⟨e, he, hn⟩
    rw [this] at hrun; exact hrun
theorem StoX.look_miss (h : StoX w F p bm D es room left) {s : ByteArray} (hs : s.size ≤ maxLen) (hn : ∀ e ∈ es, e.f.name ≠ s.data.toList) :
    (Instr.lookup 56 (.map (some bm)) (.string s) true).run Try.prog w = .ok (.tuple #[.pointer none, .bool false]) w := by
  obtain ⟨v, ps, hrun, hv⟩ := h.map.look_ok law_str Try.underlying56 (zeroPtr w) ptrE_none (key_str hs)
  have hf : Maps.has D (.string s.data.toList) = false := by
    rw [Bool.eq_false_iff]; intro h2
    obtain ⟨e, he, e2⟩ := (h.has _).1 h2
    exact hn e he e2
  rw [Maps.atKey_of_not_has hf] at hv
  obtain rfl := ptrE_inv_none hv
  rw [hf] at hrun; exact hrun
theorem Lst.put {w w' : World} {lm : Nat} {acc : List (List UInt8 × Int)} {s : List UInt8} {z : Int} {D : DataW Unit} (h1 : w.ownsMap Try.prog 9 (plainElem Try.prog 3) lm (Maps.size D) D) (h2 : Maps.size D ≤ acc.length) (h3 : ∀ s, Maps.has D (.string s) = saidIn acc s) (h4 : ∀ s, D.atKey (.string s) (.lit (.int .i64 0)) = .lit (.int .i64 (lastOf acc s))) (hs : saidIn acc s = false)
    (h : w'.ownsMap Try.prog 9 (plainElem Try.prog 3) lm (Maps.size D + 1) (D.put (.string s) (.lit (.int .i64 z)))) : Lst w' lm (acc ++ [(s, z)]) := by
  have hT := h1.tidy law_str
  have hsz : Maps.size (D.put (.string s) (.lit (.int .i64 z))) = Maps.size D + 1 := by
    rw [Maps.size_put hT, h3, hs]; rfl
  refine ⟨_, by rw [hsz]; exact h, by rw [hsz, List.length_append]; simp; omega, fun t => ?_, fun t => ?_⟩
  · rw [saidIn_snoc]
    by_cases e : t = s
    · subst e; rw [Maps.has_put_same hT.isMap (by trivial)]; simp
    · rw [Maps.has_put_other (by intro h; injection h with h; exact e h), h3, decide_eq_false (fun h => e h.symm)]; simp
  · rw [lastOf_snoc hs]
    by_cases e : t = s
    · subst e; rw [Maps.atKey_put_same hT.isMap (by trivial), if_pos rfl]
    · rw [Maps.atKey_put_other (by intro h; injection h with h; exact e h), h4, if_neg e]

def OutPost (r : Option (List (List UInt8 × Int))) (w : World) (e : Ending) (w' : World) : Prop :=
  (match r with
    | none => e = .returned (.tuple #[.map none, .bool false])
    | some acc => ∃ lm, e = .returned (.tuple #[.map (some lm), .bool true]) ∧ Lst w' lm acc ∧ w.heap.size ≤ lm) ∧ Below w.heap.size w w'
theorem at_world {C P : World → Prop} {W : World} (h : P W) (h2 : ∀ V, P V → C V) : C W := h2 _ h
set_option maxHeartbeats 4000000 in
set_option maxRecDepth 20000 in
theorem outlasting_any (h : StoX w F p bm D es room left) (A : Option Addr) (ks : List (ByteArray × Int)) (n c : Nat) (hk : Kepts w A ks) (hn : ks.length = n) (hm : n ≤ maxLen) :
    Calls Try.prog 45 #[.pointer (some ⟨p, 0, none⟩), .slice A n c] w (OutPost (outR (es.map (·.f)) ks []) w) := by
  have hmm := @run_makeMap Try.prog
  have H := Lib.hid h
  have HK := Lib.hid hk
  have HN := Lib.hid hn
  unfold maxLen at hm
  have hm' : (n : Int) ≤ 9223372036854775807 := by omega
  clear h hk hn
  go_enter Try.func45, Try.ntmps45
  go_wp2
  go_loopw [16] (fun iv wr => ∃ (k : Nat) (acc : List (List UInt8 × Int)), k ≤ n ∧ iv = .int .i64 (k : Int) ∧ Hid (outR (es.map (·.f)) ks [] = outR (es.map (·.f)) (ks.drop k) acc) ∧ Hid (Lst wr w.heap.size acc) ∧ acc.length ≤ k ∧ Hid (Below w.heap.size w wr)) (fun iv _ => n - (intOf iv).toNat)
  case atStart => exact ⟨0, [], Nat.zero_le _, rfl, Lib.hid rfl, Lib.hid (Lst.start w), Nat.le_refl _, Lib.hid (below_alloc _ _)⟩
  case round =>
    obtain ⟨k, acc, hkn, rfl, HO, HL, hak, HB⟩ := hrel
    have hkz : (0 : Int) ≤ (k : Int) := by omega
    by_cases hlt : k < n
    · have hlt' : (k : Int) < (n : Int) := by omega
      have hkl : k < ks.length := by have := HN.out; omega
      obtain ⟨g, o, rfl, c0, c1, hsz, hz1, hz2⟩ := (HK.out.later HB.out) k hkl
      have HD : Hid (ks.drop k = ks[k] :: ks.drop (k + 1)) := Lib.hid (List.drop_eq_getElem_cons hkl)
      generalize ks[k] = kv at *
      obtain ⟨s, z⟩ := kv
      simp only at c0 c1 hsz hz1 hz2
      clear hkl
      go_wp2_with fail
      refine at_world (C := fun V => Code.wp _ _ _ _ V) (P := fun V => Below wr.heap.size wr V ∧ V.heap[wr.heap.size]? = some (.cells #[.string s, .int .i64 z] 63 (0, 0))) ⟨below_alloc _ _, heap_new _ _⟩ (fun V hV => ?_)
      obtain ⟨hVb, hVh⟩ := hV
      have c3 : V.cell? ⟨wr.heap.size, 0, none⟩ = some (.string s) := cell_of_row V _ 0 _ _ _ hVh
      have c4 : V.cell? ⟨wr.heap.size, 1, none⟩ = some (.int .i64 z) := cell_of_row V _ 1 _ _ _ hVh
      have HVb := Lib.hid (HB.out.trans (hVb.mono HB.out.size))
      have HX := Lib.hid (H.out.later HVb.out)
      have c5 := HX.out.cells.1
      have HVh := Lib.hid hVh
      have HLV := Lib.hid (HL.out.later hVb)
      clear hVb hVh c0 c1
      rcases look_cases H.out.rising s.data.toList with ⟨h1, h2⟩ | ⟨e, he, hn, h1⟩
      · have hD := (Below.refl V.heap.size V).drew
        have hrun := (HX.out.later hD).look_miss hsz h2
        have hlk := (HLV.out.later hD).look hsz true
        rw [if_pos rfl] at hlk
        have HR : Hid (outR (es.map (·.f)) ks [] = none) := Lib.hid (by rw [HO.out, HD.out]; show (match Sto.look (es.map (·.f)) s.data.toList with | none => none | some f => _) = none; rw [h1])
        have HVd := Lib.hid (HVb.out.trans (hD.mono HVb.out.size))
        clear h1 h2 hD
        go_region_held3 (fun w' => w'.cell? ⟨p, 0, none⟩ = some (.map (some bm)) ∧ w'.cell? ⟨wr.heap.size, 0, none⟩ = some (.string s) ∧ (Instr.lookup 56 (.map (some bm)) (.string s) true).run Try.prog w' = .ok (.tuple #[.pointer none, .bool false]) w') (((try dsimp only); exact And.intro c5 (And.intro c3 hrun))) (fail)
        go_wp2_with fail
        go_quiet (fail)
        go_wp2
        go_ret2
        unfold OutPost
        rw [HR.out]
        exact ⟨rfl, below_drewN HVd.out _⟩
      · have hD := (Below.refl V.heap.size V).drew
        have hrun := (HX.out.later hD).look_hit he hsz hn true
        have hlk := (HLV.out.later hD).look hsz true
        rw [if_pos rfl] at hlk hrun
        have HVd := Lib.hid (HVb.out.trans (hD.mono HVb.out.size))
        have HLd := Lib.hid (HLV.out.later hD)
        have hfile := HX.out.file e he
        have c6 : V.cell? ⟨e.a, 0, none⟩ = some (.slice e.A e.f.bytes.length e.c) := cell_of_row V _ 0 _ _ _ hfile
        have c7 : V.cell? ⟨e.a, 1, none⟩ = some (.int .i64 (e.f.sure : Int)) := cell_of_row V _ 1 _ _ _ hfile
        have hsure := H.out.sures e he
        have hfit := H.out.fits
        have hue : e.f.bytes.length ≤ used (es.map (·.f)) := used_le (List.mem_map.2 ⟨e, he, rfl⟩)
        have hw1 : IntKind.i64.wrap ((e.f.bytes.length : Int) - (e.f.sure : Int)) = (e.f.bytes.length : Int) - (e.f.sure : Int) := by rw [IntKind.wrap_i64]; omega
        have HR : Hid (outR (es.map (·.f)) ks [] = if saidIn acc s.data.toList = true ∨ z < 0 ∨ (e.f.bytes.length : Int) - (e.f.sure : Int) < z then none else outR (es.map (·.f)) (ks.drop (k + 1)) (acc ++ [(s.data.toList, z)])) := Lib.hid (by
          rw [HO.out, HD.out]
          show (match Sto.look (es.map (·.f)) s.data.toList with | none => none | some f => _) = _
          rw [h1])
        clear h1 hD hfile hsure hfit hue hn he
        go_region_held3 (fun w' => w'.cell? ⟨p, 0, none⟩ = some (.map (some bm)) ∧ w'.cell? ⟨wr.heap.size, 0, none⟩ = some (.string s) ∧ (Instr.lookup 56 (.map (some bm)) (.string s) true).run Try.prog w' = .ok (.tuple #[.pointer (some ⟨e.a, 0, none⟩), .bool true]) w') (((try dsimp only); exact And.intro c5 (And.intro c3 hrun))) (fail)
        cases hsd : saidIn acc s.data.toList
        · rw [hsd] at hlk
          by_cases hz0 : z < 0
          · rw [if_pos (.inr (.inl hz0))] at HR
            go_wp2_with fail
            go_quiet (fail)
            go_wp2
            go_ret2
            unfold OutPost
            rw [HR.out]
            exact ⟨rfl, below_drewN HVd.out _⟩
          · have hz0' : (0 : Int) ≤ z := by omega
            by_cases hz3 : (e.f.bytes.length : Int) - (e.f.sure : Int) < z
            · rw [if_pos (.inr (.inr hz3))] at HR
              go_wp2_with fail
              go_quiet (fail)
              go_wp2
              go_ret2
              unfold OutPost
              rw [HR.out]
              exact ⟨rfl, below_drewN HVd.out _⟩
            · rw [if_neg (by rw [hsd]; exact fun h => h.elim (fun h => by cases h) (fun h => h.elim hz0 hz3))] at HR
              go_wp2_with fail
              go_quiet (fail)
              refine at_world (C := fun X => Exit.then _ _ _ _ X) (P := fun X => Below V.heap.size V X) (below_drewN (Below.refl V.heap.size V).drew _) (fun X hX => ?_)
              obtain ⟨DM, g1, g2, g3, g4⟩ := HLV.out.later hX
              have HG := Lib.hid g1
              have HGs : Hid (Maps.size DM < maxLen) := Lib.hid (by unfold maxLen; omega)
              have HPut := Lib.hid (fun w' => Lst.put (w' := w') (z := z) g1 g2 g3 g4 hsd)
              have hXh := (hX.block _ (heap_lt HVh.out)).trans HVh.out
              have d3 : X.cell? ⟨wr.heap.size, 0, none⟩ = some (.string s) := cell_of_row X _ 0 _ _ _ hXh
              have d4 : X.cell? ⟨wr.heap.size, 1, none⟩ = some (.int .i64 z) := cell_of_row X _ 1 _ _ _ hXh
              have HX2 := Lib.hid (HVb.out.trans (hX.mono HVb.out.size))
              clear c3 c4 c5 c6 c7 hrun hlk hX hXh g1 g2 g3 g4
              go_wp2_with (at_mapUpdate; refine wpList_mapUpdate_in _ rfl _ _ _ 77 rfl 9 3 law_str Try.underlying77 (plainElem Try.prog 3) w.heap.size _ DM rfl HG.out HGs.out _ _ _ rfl rfl (key_str hsz) _ [] (plainElem_int Try.underlying3 (WalkArith.wf_i64 (by omega))) ?_; intro w4 hown4 hturn4; have HL4 := Lib.hid (HPut.out w4 hown4); have HB4 := Lib.hid (HX2.out.grown hturn4.grown HX2.out.size (fun k e => Nat.le_of_eq (Option.some.inj e))); clear hown4 hturn4)
              go_roundw
              case rel => exact ⟨k + 1, acc ++ [(s.data.toList, z)], by omega, by go_num, HR, HL4, by rw [List.length_append]; show acc.length + 1 ≤ k + 1; omega, HB4⟩
              case measure => simp [intOf]; omega
        · rw [hsd] at hlk
          rw [if_pos (.inl hsd)] at HR
          go_wp2_with fail
          go_quiet (fail)
          go_wp2
          go_ret2
          unfold OutPost
          rw [HR.out]
          exact ⟨rfl, below_drewN HVd.out _⟩
    · obtain rfl : k = n := by omega
      have HE : Hid (outR (es.map (·.f)) ks [] = some acc) := Lib.hid (by rw [HO.out, List.drop_of_length_le (by rw [HN.out]; omega)]; rfl)
      go_wp2
      go_ret2
      unfold OutPost
      rw [HE.out]
      exact ⟨⟨_, rfl, HL.out, Nat.le_refl _⟩, HB.out⟩
end
end Go.Proofs.Ytobgiialecgpnaa
