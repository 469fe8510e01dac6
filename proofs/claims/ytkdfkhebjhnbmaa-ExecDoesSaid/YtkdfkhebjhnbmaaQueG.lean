/- Package queue: timers exchanged, put and taken away, with the map of their places. -/
import Derived.Test.YtkdfkhebjhnbmaaQueF
set_option linter.unusedSimpArgs false
set_option linter.unusedVariables false
namespace Go.Proofs.Ytkdfkhebjhnbmaa
open Go.ChangeShapes Go.WideShapes Go.ChangeAt Go.RowKit Go.Base Go.Que

theorem law_int : Maps.Keyed Try.prog 3 := Maps.int_keyed Try.underlying3
theorem zeroI (w : World) : (zeroValue 3).run Try.prog w = .ok (.int .i64 0) w := by kernel_rfl
theorem key_int {x : Int} (h1 : -9223372036854775808 ≤ x) (h2 : x ≤ 9223372036854775807) : keyOf Try.prog 3 (.int .i64 x) = some (kv x) := Maps.keyOf_int_mk Try.underlying3 (WalkArith.wf_i64 ⟨h1, h2⟩)
theorem elem_int {x : Nat} (h : x ≤ 65536) : plainElem Try.prog 3 (.int .i64 (x : Int)) = some (dv x, []) := plainElem_int Try.underlying3 (WalkArith.wf_i64 ⟨by omega, by omega⟩)
section
variable {w w' : World} {F G : Nat → Prop} {q c mb n : Nat} {A : Option Addr} {D : DataW Unit} {f : Nat → Tm} {turns : Int}
/-- What an exchange leaves. -/
def PSwap (F : Nat → Prop) (q : Nat) (f : Nat → Tm) (n : Nat) (turns : Int) (w : World) (e : Ending) (w' : World) : Prop := e = .returned (.tuple #[]) ∧ Que w' F q f n turns ∧ Moved F w w'
theorem entry_two (h : QueX w F q A c mb D f n turns) {V : World} (hV : Moved F w V) (hmV : V.ownsMap Try.prog 3 (plainElem Try.prog 3) mb (Maps.size D) D) {i j : Nat} (hi : i < n) (hj : j < n) (hn : n ≤ 65536) :
    ∃ v0 st, (Instr.mapEntry 72 (.map (some mb)) (.int .i64 (f j).id)).run Try.prog V = .ok (.tuple #[v0, .int .i64 st]) V ∧
      ∃ w3, (Instr.entryStore 72 (.map (some mb)) (.int .i64 st) (.int .i64 (i : Int))).run Try.prog V = .ok () w3 ∧ Moved (fun k => k = mb) V w3 ∧
      ∃ v1 st1, (Instr.mapEntry 72 (.map (some mb)) (.int .i64 (f i).id)).run Try.prog w3 = .ok (.tuple #[v1, .int .i64 st1]) w3 ∧
      ∃ w4, (Instr.entryStore 72 (.map (some mb)) (.int .i64 st1) (.int .i64 (j : Int))).run Try.prog w3 = .ok () w4 ∧ Moved (fun k => k = mb) w3 w4 ∧
        w4.ownsMap Try.prog 3 (plainElem Try.prog 3) mb (Maps.size ((D.put (kv (f j).id) (dv i)).put (kv (f i).id) (dv j))) ((D.put (kv (f j).id) (dv i)).put (kv (f i).id) (dv j)) := by
  have fj := (h.fit j hj).2.1
  have fi := (h.fit i hi).2.1
  have hsz := h.plc.size
  obtain ⟨v0, st, h1, h2⟩ := own_entry hmV law_int Try.underlying72 (key_int fj.1 fj.2) ⟨_, zeroI V⟩ (h.plc.mem hj) (by unfold maxLen; omega)
  obtain ⟨w3, h3, h4, h5⟩ := h2 V (.int .i64 (i : Int)) (dv i) [] rfl (elem_int (by omega))
  have hh : Maps.has (D.put (kv (f j).id) (dv i)) (kv (f i).id) = true := by
    by_cases e : (f i).id = (f j).id
    · rw [e]; exact Maps.has_put_same h.plc.tidy.isMap (by trivial) _
    · exact (Maps.has_put_other (lit_ne e) _).trans (h.plc.mem hi)
  obtain ⟨v1, st1, g1, g2⟩ := own_entry h4 law_int Try.underlying72 (key_int fi.1 fi.2) ⟨_, zeroI w3⟩ hh (by unfold maxLen; omega)
  obtain ⟨w4, g3, g4, g5⟩ := g2 w3 (.int .i64 (j : Int)) (dv j) [] rfl (elem_int (by omega))
  exact ⟨v0, st, h1, w3, h3, h5, v1, st1, g1, w4, g3, g5, own_exact g4⟩
set_option maxHeartbeats 2000000 in
set_option maxRecDepth 20000 in
theorem pswap_any (h : Que w F q f n turns) {i j : Nat} (hi : i < n) (hj : j < n) : Calls Try.prog 61 #[.pointer (some ⟨q, 0, none⟩), .int .i64 (i : Int), .int .i64 (j : Int)] w (PSwap F q (swp f i j) n turns w) := by
  obtain ⟨A, c, mb, D, h⟩ := h
  obtain ⟨g, rfl, _⟩ := h.row.at_ hi
  have hn := h.row.few
  have HSw := Lib.hid (rswap_any h.row hi hj)
  have H := Lib.hid h
  have h0 := h.cells.1
  have hq : q < w.heap.size := World.block_lt_of_cell? w _ h0
  clear h
  go_enter Try.func61, Try.ntmps61
  go_wp2_with (go_at_call 67; refine Calls.mono (by with_reducible exact HSw.out) ?_; rintro en w1 ⟨rfl, hr1, hm1⟩; have HR1 := Lib.hid hr1; have HM1 := Lib.hid hm1; clear hr1 hm1)
  have HX := H.out
  have hmap1 := own_map_moved HX.map HM1.out (fun e => map_apart HX.map HX.row.own.choose_spec.1 g rfl e.symm)
  obtain ⟨v0, st, e1, w3, e2, m3, v1, st1, e3, w4, e4, m4, hown⟩ := entry_two HX (V := w1.drew) ((HM1.out.weaken (fun k _ e => HX.inF.2.2 k (by rw [e]; rfl))).drew) hmap1 hi hj hn
  obtain ⟨g', eg, i0, i1, i2⟩ := HR1.out.at_ hi
  injection eg with eg; injection eg with eg; subst eg
  obtain ⟨g', eg, j0, j1, j2⟩ := HR1.out.at_ hj
  injection eg with eg; injection eg with eg; subst eg
  rw [swp_l] at i1
  rw [swp_r] at j1
  have hqm : q ≠ mb := map_ne HX.map HX.row.self
  have hgm : g ≠ mb := map_apart HX.map HX.row.own.choose_spec.1 g rfl
  have hself := HR1.out.self
  have q0 : w1.cell? ⟨q, 0, none⟩ = some (.slice (some ⟨g, 0, none⟩) n c) := cell_of_row w1 q 0 _ _ _ hself
  have q1 : w1.cell? ⟨q, 1, none⟩ = some (.map (some mb)) := cell_of_row w1 q 1 _ _ _ hself
  obtain ⟨xi, hxi⟩ : ∃ x, x = (f i).id := ⟨_, rfl⟩
  obtain ⟨xj, hxj⟩ : ∃ x, x = (f j).id := ⟨_, rfl⟩
  have HP : Hid (PSwap F q (swp f i j) n turns w (.returned (.tuple #[])) w4) := Lib.hid (by
    have hm : Moved (fun k => k = mb) w1 w4 := (show Moved (fun k => k = mb) w1 w3 from ⟨m3.os, m3.tape, m3.output, m3.size, m3.block⟩).trans m4 (fun _ _ e => e)
    refine ⟨rfl, ⟨some ⟨g, 0, none⟩, c, mb, _, ⟨HR1.out.moved hm hqm (fun k hk e => hgm ((Option.some.inj hk).trans e)), hown, plc_swap HX.plc hi hj, fun k hk => ?_, HX.inF⟩⟩, (HM1.out.weaken (fun k _ e => HX.inF.2.2 k (by rw [e]; rfl))).trans hm (fun k _ e => by rw [e]; exact HX.inF.2.1)⟩
    obtain ⟨m, hm, e⟩ := ((same_swp f hi hj) (swp f i j k)).2 ⟨k, hk, rfl⟩
    rw [← e]; exact HX.fit m hm)
  rw [← hxj] at e1 i1
  rw [← hxi] at e3 j1
  have E1 := e1
  have E2 := e2
  have E3 := e3
  have E4 := e4
  have HC : Hid (∀ V, Moved (fun k => k = mb) w1 V → V.cell? ⟨q, 0, none⟩ = some (.slice (some ⟨g, 0, none⟩) n c) ∧ V.cell? ⟨q, 1, none⟩ = some (.map (some mb)) ∧ V.cell? ⟨g, i * 3 + 1, none⟩ = some (.int .i64 xj) ∧ V.cell? ⟨g, j * 3 + 1, none⟩ = some (.int .i64 xi)) := Lib.hid (fun V hV => ⟨hV.cell q0 hqm, hV.cell q1 hqm, hV.cell i1 hgm, hV.cell j1 hgm⟩)
  have HM3 : Hid (Moved (fun k => k = mb) w1 w3) := Lib.hid ⟨m3.os, m3.tape, m3.output, m3.size, m3.block⟩
  have HM4 : Hid (Moved (fun k => k = mb) w1 w4) := Lib.hid (HM3.out.trans m4 (fun _ _ e => e))
  clear e1 e2 e3 e4 m3 m4 hown hself i0 i2 j0 j2 hmap1 HX hxi hxj q0 q1 i1 j1 h0
  refine wp_region_held_drew (S := (fun w' => w'.cell? ⟨q, 0, none⟩ = some (.slice (some ⟨g, 0, none⟩) n c) ∧ w'.cell? ⟨q, 1, none⟩ = some (.map (some mb)) ∧ w'.cell? ⟨g, i * 3 + 1, none⟩ = some (.int .i64 xj) ∧ w'.cell? ⟨g, j * 3 + 1, none⟩ = some (.int .i64 xi))) (by kernel_rfl) (HC.out _ (Moved.refl _ w1).drew) (fun hHeld => ?_)
  refine wpAnyH_take (i := 0) (v := ?vv1) rfl (by kernel_rfl) (by kernel_rfl) (by kernel_rfl) (fun _ _ _ h => h) (Or.inl ⟨by rfl, ?hy1⟩) hHeld ?rr1
  case hy1 => (intro w' hSw; obtain ⟨g1, g2, g3, g4⟩ := hSw; go_simp; try with_reducible rfl)
  try simp only [Act.put, List.setIfInBounds_toArray, List.set_cons_zero, List.set_cons_succ, List.getElem_toArray, List.getElem_cons_succ, List.getElem_cons_zero]
  refine wpAnyH_take (i := 1) (v := ?vv2) rfl (by kernel_rfl) (by kernel_rfl) (by kernel_rfl) (fun _ _ _ h => h) (Or.inl ⟨by rfl, ?hy2⟩) hHeld ?rr2
  case hy2 => (intro w' hSw; obtain ⟨g1, g2, g3, g4⟩ := hSw; go_simp; try with_reducible rfl)
  try simp only [Act.put, List.setIfInBounds_toArray, List.set_cons_zero, List.set_cons_succ, List.getElem_toArray, List.getElem_cons_succ, List.getElem_cons_zero]
  refine wpAnyH_take (i := 2) (v := ?vv3) rfl (by kernel_rfl) (by kernel_rfl) (by kernel_rfl) (fun _ _ _ h => h) (Or.inl ⟨by rfl, ?hy3⟩) hHeld ?rr3
  case hy3 => (intro w' hSw; obtain ⟨g1, g2, g3, g4⟩ := hSw; go_simp; try with_reducible rfl)
  try simp only [Act.put, List.setIfInBounds_toArray, List.set_cons_zero, List.set_cons_succ, List.getElem_toArray, List.getElem_cons_succ, List.getElem_cons_zero]
  refine wpAnyH_take (i := 3) (v := ?vv4) rfl (by kernel_rfl) (by kernel_rfl) (by kernel_rfl) (fun _ _ _ h => h) (Or.inl ⟨by rfl, ?hy4⟩) hHeld ?rr4
  case hy4 => (intro w' hSw; obtain ⟨g1, g2, g3, g4⟩ := hSw; go_simp; try with_reducible rfl)
  try simp only [Act.put, List.setIfInBounds_toArray, List.set_cons_zero, List.set_cons_succ, List.getElem_toArray, List.getElem_cons_succ, List.getElem_cons_zero]
  refine wpAnyH_take (i := 4) (v := ?vv5) rfl (by kernel_rfl) (by kernel_rfl) (by kernel_rfl) (fun _ _ _ h => h) (Or.inl ⟨by rfl, ?hy5⟩) hHeld ?rr5
  case hy5 => (intro w' hSw; obtain ⟨g1, g2, g3, g4⟩ := hSw; go_simp; try with_reducible rfl)
  try simp only [Act.put, List.setIfInBounds_toArray, List.set_cons_zero, List.set_cons_succ, List.getElem_toArray, List.getElem_cons_succ, List.getElem_cons_zero]
  refine wpAnyH_take (i := 5) (v := ?vv6) rfl (by kernel_rfl) (by kernel_rfl) (by kernel_rfl) (fun _ _ _ h => h) (Or.inl ⟨by rfl, ?hy6⟩) hHeld ?rr6
  case hy6 => (intro w' hSw; obtain ⟨g1, g2, g3, g4⟩ := hSw; go_simp; try with_reducible rfl)
  try simp only [Act.put, List.setIfInBounds_toArray, List.set_cons_zero, List.set_cons_succ, List.getElem_toArray, List.getElem_cons_succ, List.getElem_cons_zero]
  refine wpAnyH_take (i := 6) (v := ?vv7) rfl (by kernel_rfl) (by kernel_rfl) (by kernel_rfl) (fun _ _ _ h => h) (Or.inl ⟨by rfl, ?hy7⟩) hHeld ?rr7
  case hy7 => (intro w' hSw; obtain ⟨g1, g2, g3, g4⟩ := hSw; go_simp; try with_reducible rfl)
  try simp only [Act.put, List.setIfInBounds_toArray, List.set_cons_zero, List.set_cons_succ, List.getElem_toArray, List.getElem_cons_succ, List.getElem_cons_zero]
  refine wpAnyH_take (i := 7) (v := ?vv8) rfl (by kernel_rfl) (by kernel_rfl) (by kernel_rfl) (fun _ _ _ h => h) (Or.inl ⟨by rfl, ?hy8⟩) hHeld ?rr8
  case hy8 => (intro w' hSw; obtain ⟨g1, g2, g3, g4⟩ := hSw; go_simp; try with_reducible rfl)
  try simp only [Act.put, List.setIfInBounds_toArray, List.set_cons_zero, List.set_cons_succ, List.getElem_toArray, List.getElem_cons_succ, List.getElem_cons_zero]
  refine wpAnyH_take (i := 8) (v := ?vv9) rfl (by kernel_rfl) (by kernel_rfl) (by kernel_rfl) (fun _ _ _ h => h) (Or.inl ⟨by rfl, ?hy9⟩) hHeld ?rr9
  case hy9 => (intro w' hSw; obtain ⟨g1, g2, g3, g4⟩ := hSw; go_simp; try with_reducible rfl)
  try simp only [Act.put, List.setIfInBounds_toArray, List.set_cons_zero, List.set_cons_succ, List.getElem_toArray, List.getElem_cons_succ, List.getElem_cons_zero]
  refine wpAnyH_take (i := 9) (v := ?vv10) rfl (by kernel_rfl) (by kernel_rfl) (by kernel_rfl) (fun _ _ _ h => h) (Or.inl ⟨by rfl, ?hy10⟩) hHeld ?rr10
  case hy10 => (intro w' hSw; obtain ⟨g1, g2, g3, g4⟩ := hSw; go_simp; try with_reducible rfl)
  try simp only [Act.put, List.setIfInBounds_toArray, List.set_cons_zero, List.set_cons_succ, List.getElem_toArray, List.getElem_cons_succ, List.getElem_cons_zero]
  refine wpAnyH_take (i := 10) (v := ?vv11) rfl (by kernel_rfl) (by kernel_rfl) (by kernel_rfl) (fun _ _ _ h => h) (Or.inl ⟨by rfl, ?hy11⟩) hHeld ?rr11
  case hy11 => (intro w' hSw; obtain ⟨g1, g2, g3, g4⟩ := hSw; go_simp; try with_reducible rfl)
  try simp only [Act.put, List.setIfInBounds_toArray, List.set_cons_zero, List.set_cons_succ, List.getElem_toArray, List.getElem_cons_succ, List.getElem_cons_zero]
  refine wpAnyH_take (i := 11) (v := ?vv12) rfl (by kernel_rfl) (by kernel_rfl) (by kernel_rfl) (fun _ _ _ h => h) (Or.inl ⟨by rfl, ?hy12⟩) hHeld ?rr12
  case hy12 => (intro w' hSw; obtain ⟨g1, g2, g3, g4⟩ := hSw; go_simp; try with_reducible rfl)
  try simp only [Act.put, List.setIfInBounds_toArray, List.set_cons_zero, List.set_cons_succ, List.getElem_toArray, List.getElem_cons_succ, List.getElem_cons_zero]
  refine wpAnyH_take (i := 12) (v := ?vv13) rfl (by kernel_rfl) (by kernel_rfl) (by kernel_rfl) (fun _ _ _ h => h) (Or.inl ⟨by rfl, ?hy13⟩) hHeld ?rr13
  case hy13 => (intro w' hSw; obtain ⟨g1, g2, g3, g4⟩ := hSw; go_simp; try with_reducible rfl)
  try simp only [Act.put, List.setIfInBounds_toArray, List.set_cons_zero, List.set_cons_succ, List.getElem_toArray, List.getElem_cons_succ, List.getElem_cons_zero]
  refine wpAnyH_take (i := 13) (v := ?vv14) rfl (by kernel_rfl) (by kernel_rfl) (by kernel_rfl) (fun _ _ _ h => h) (Or.inl ⟨by rfl, ?hy14⟩) hHeld ?rr14
  case hy14 => (intro w' hSw; obtain ⟨g1, g2, g3, g4⟩ := hSw; go_simp; try with_reducible rfl)
  try simp only [Act.put, List.setIfInBounds_toArray, List.set_cons_zero, List.set_cons_succ, List.getElem_toArray, List.getElem_cons_succ, List.getElem_cons_zero]
  refine wpAnyH_take (i := 14) (v := ?vv15) rfl (by kernel_rfl) (by kernel_rfl) (by kernel_rfl) (fun _ _ _ h => h) (Or.inl ⟨by rfl, ?hy15⟩) hHeld ?rr15
  case hy15 => (intro w' hSw; obtain ⟨g1, g2, g3, g4⟩ := hSw; go_simp; try with_reducible rfl)
  try simp only [Act.put, List.setIfInBounds_toArray, List.set_cons_zero, List.set_cons_succ, List.getElem_toArray, List.getElem_cons_succ, List.getElem_cons_zero]
  refine wpAnyH_take (i := 15) (v := ?vv16) rfl (by kernel_rfl) (by kernel_rfl) (by kernel_rfl) (fun _ _ _ h => h) (Or.inl ⟨by rfl, ?hy16⟩) hHeld ?rr16
  case hy16 => (intro w' hSw; obtain ⟨g1, g2, g3, g4⟩ := hSw; go_simp; try with_reducible rfl)
  try simp only [Act.put, List.setIfInBounds_toArray, List.set_cons_zero, List.set_cons_succ, List.getElem_toArray, List.getElem_cons_succ, List.getElem_cons_zero]
  refine wpAnyH_take (i := 16) (v := ?vv17) rfl (by kernel_rfl) (by kernel_rfl) (by kernel_rfl) (fun _ _ _ h => h) (Or.inl ⟨by rfl, ?hy17⟩) hHeld ?rr17
  case hy17 => (intro w' hSw; obtain ⟨g1, g2, g3, g4⟩ := hSw; go_simp; try with_reducible rfl)
  try simp only [Act.put, List.setIfInBounds_toArray, List.set_cons_zero, List.set_cons_succ, List.getElem_toArray, List.getElem_cons_succ, List.getElem_cons_zero]
  refine wpAnyH_take (i := 17) (v := ?vv18) rfl (by kernel_rfl) (by kernel_rfl) (by kernel_rfl) (fun _ _ _ h => h) (Or.inl ⟨by rfl, ?hy18⟩) hHeld ?rr18
  case hy18 => (intro w' hSw; obtain ⟨g1, g2, g3, g4⟩ := hSw; go_simp; try with_reducible rfl)
  try simp only [Act.put, List.setIfInBounds_toArray, List.set_cons_zero, List.set_cons_succ, List.getElem_toArray, List.getElem_cons_succ, List.getElem_cons_zero]
  refine wpAnyH_take (i := 18) (v := ?vv19) rfl (by kernel_rfl) (by kernel_rfl) (by kernel_rfl) (fun _ _ _ h => h) (Or.inl ⟨by rfl, ?hy19⟩) hHeld ?rr19
  case hy19 => (intro w' hSw; obtain ⟨g1, g2, g3, g4⟩ := hSw; go_simp; try with_reducible rfl)
  try simp only [Act.put, List.setIfInBounds_toArray, List.set_cons_zero, List.set_cons_succ, List.getElem_toArray, List.getElem_cons_succ, List.getElem_cons_zero]
  refine wpAnyH_take (i := 19) (v := ?vv20) rfl (by kernel_rfl) (by kernel_rfl) (by kernel_rfl) (fun _ _ _ h => h) (Or.inl ⟨by rfl, ?hy20⟩) hHeld ?rr20
  case hy20 => (intro w' hSw; obtain ⟨g1, g2, g3, g4⟩ := hSw; go_simp; try with_reducible rfl)
  try simp only [Act.put, List.setIfInBounds_toArray, List.set_cons_zero, List.set_cons_succ, List.getElem_toArray, List.getElem_cons_succ, List.getElem_cons_zero]
  refine wpAnyH_take (i := 20) (v := ?vv21) rfl (by kernel_rfl) (by kernel_rfl) (by kernel_rfl) (fun _ _ _ h => h) (Or.inl ⟨by rfl, ?hy21⟩) hHeld ?rr21
  case hy21 => (intro w' hSw; obtain ⟨g1, g2, g3, g4⟩ := hSw; go_simp; try with_reducible rfl)
  try simp only [Act.put, List.setIfInBounds_toArray, List.set_cons_zero, List.set_cons_succ, List.getElem_toArray, List.getElem_cons_succ, List.getElem_cons_zero]
  refine wpAnyH_take (i := 21) (v := ?vv22) rfl (by kernel_rfl) (by kernel_rfl) (by kernel_rfl) (fun _ _ _ h => h) (Or.inl ⟨by rfl, ?hy22⟩) hHeld ?rr22
  case hy22 => (intro w' hSw; obtain ⟨g1, g2, g3, g4⟩ := hSw; go_simp; try with_reducible rfl)
  try simp only [Act.put, List.setIfInBounds_toArray, List.set_cons_zero, List.set_cons_succ, List.getElem_toArray, List.getElem_cons_succ, List.getElem_cons_zero]
  refine wpAnyH_take (i := 22) (v := ?vv23) rfl (by kernel_rfl) (by kernel_rfl) (by kernel_rfl) (fun _ _ _ h => h) (Or.inl ⟨by rfl, ?hy23⟩) hHeld ?rr23
  case hy23 => (intro w' hSw; obtain ⟨g1, g2, g3, g4⟩ := hSw; go_simp; try with_reducible rfl)
  try simp only [Act.put, List.setIfInBounds_toArray, List.set_cons_zero, List.set_cons_succ, List.getElem_toArray, List.getElem_cons_succ, List.getElem_cons_zero]
  refine wpAnyH_take (i := 23) (v := ?vv24) rfl (by kernel_rfl) (by kernel_rfl) (by kernel_rfl) (fun _ _ _ h => h) (Or.inl ⟨by rfl, ?hy24⟩) hHeld ?rr24
  case hy24 => (intro w' hSw; obtain ⟨g1, g2, g3, g4⟩ := hSw; go_simp; try with_reducible rfl)
  try simp only [Act.put, List.setIfInBounds_toArray, List.set_cons_zero, List.set_cons_succ, List.getElem_toArray, List.getElem_cons_succ, List.getElem_cons_zero]
  refine wpAnyH_take (i := 24) (v := ?vv25) rfl (by kernel_rfl) (by kernel_rfl) (by kernel_rfl) (fun _ _ _ h => h) (Or.inl ⟨by rfl, ?hy25⟩) hHeld ?rr25
  case hy25 => (intro w' hSw; obtain ⟨g1, g2, g3, g4⟩ := hSw; go_simp; try with_reducible rfl)
  try simp only [Act.put, List.setIfInBounds_toArray, List.set_cons_zero, List.set_cons_succ, List.getElem_toArray, List.getElem_cons_succ, List.getElem_cons_zero]
  refine wpAnyH_take (i := 25) (v := ?vv26) rfl (by kernel_rfl) (by kernel_rfl) (by kernel_rfl) (fun _ _ _ h => h) (Or.inl ⟨by rfl, ?hy26⟩) hHeld ?rr26
  case hy26 => (intro w' hSw; obtain ⟨g1, g2, g3, g4⟩ := hSw; go_simp; try with_reducible rfl)
  try simp only [Act.put, List.setIfInBounds_toArray, List.set_cons_zero, List.set_cons_succ, List.getElem_toArray, List.getElem_cons_succ, List.getElem_cons_zero]
  refine wpAnyH_take (i := 26) (v := ?vv27) rfl (by kernel_rfl) (by kernel_rfl) (by kernel_rfl) (fun _ _ _ h => h) (Or.inl ⟨by rfl, ?hy27⟩) hHeld ?rr27
  case hy27 => (intro w' hSw; obtain ⟨g1, g2, g3, g4⟩ := hSw; go_simp; try with_reducible rfl)
  try simp only [Act.put, List.setIfInBounds_toArray, List.set_cons_zero, List.set_cons_succ, List.getElem_toArray, List.getElem_cons_succ, List.getElem_cons_zero]
  refine wpAnyH_take (i := 27) (v := ?vv28) rfl (by kernel_rfl) (by kernel_rfl) (by kernel_rfl) (fun _ _ _ h => h) (Or.inl ⟨by rfl, ?hy28⟩) hHeld ?rr28
  case hy28 => (intro w' hSw; obtain ⟨g1, g2, g3, g4⟩ := hSw; go_simp; try with_reducible rfl)
  try simp only [Act.put, List.setIfInBounds_toArray, List.set_cons_zero, List.set_cons_succ, List.getElem_toArray, List.getElem_cons_succ, List.getElem_cons_zero]
  refine wpAnyH_ready (rs := [28]) (by kernel_rfl) (by simp) ?_
  refine AllReadyH.cons rfl (fun K hK => ?_) AllReadyH.nil
  try rw [if_pos (by rfl)]
  go_simp
  refine hK.out _ _ (HC.out _ (Moved.refl _ w1).drew) (fun hHeld2 => ?_)
  clear hK K hHeld
  have hHeld := hHeld2
  clear hHeld2
  try simp only [Act.put, List.setIfInBounds_toArray, List.set_cons_zero, List.set_cons_succ, List.getElem_toArray, List.getElem_cons_succ, List.getElem_cons_zero]
  refine wpAnyH_take (i := 29) (v := ?vv29) rfl (by kernel_rfl) (by kernel_rfl) (by kernel_rfl) (fun _ _ _ h => h) (Or.inl ⟨by rfl, ?hy29⟩) hHeld ?rr29
  case hy29 => (intro w' hSw; obtain ⟨g1, g2, g3, g4⟩ := hSw; go_simp; try with_reducible rfl)
  try simp only [Act.put, List.setIfInBounds_toArray, List.set_cons_zero, List.set_cons_succ, List.getElem_toArray, List.getElem_cons_succ, List.getElem_cons_zero]
  refine wpAnyH_ready (rs := [30]) (by kernel_rfl) (by simp) ?_
  refine AllReadyH.cons rfl (fun K hK => ?_) AllReadyH.nil
  try rw [if_pos (by rfl)]
  go_simp
  refine hK.out _ _ (HC.out _ HM3.out) (fun hHeld2 => ?_)
  clear hK K hHeld
  have hHeld := hHeld2
  clear hHeld2
  try simp only [Act.put, List.setIfInBounds_toArray, List.set_cons_zero, List.set_cons_succ, List.getElem_toArray, List.getElem_cons_succ, List.getElem_cons_zero]
  refine wpAnyH_ready (rs := [31]) (by kernel_rfl) (by simp) ?_
  refine AllReadyH.cons rfl (fun K hK => ?_) AllReadyH.nil
  try rw [if_pos (by rfl)]
  go_simp
  refine hK.out _ _ (HC.out _ HM3.out) (fun hHeld2 => ?_)
  clear hK K hHeld
  have hHeld := hHeld2
  clear hHeld2
  try simp only [Act.put, List.setIfInBounds_toArray, List.set_cons_zero, List.set_cons_succ, List.getElem_toArray, List.getElem_cons_succ, List.getElem_cons_zero]
  refine wpAnyH_take (i := 32) (v := ?vv30) rfl (by kernel_rfl) (by kernel_rfl) (by kernel_rfl) (fun _ _ _ h => h) (Or.inl ⟨by rfl, ?hy30⟩) hHeld ?rr30
  case hy30 => (intro w' hSw; obtain ⟨g1, g2, g3, g4⟩ := hSw; go_simp; try with_reducible rfl)
  try simp only [Act.put, List.setIfInBounds_toArray, List.set_cons_zero, List.set_cons_succ, List.getElem_toArray, List.getElem_cons_succ, List.getElem_cons_zero]
  refine wpAnyH_ready (rs := [33]) (by kernel_rfl) (by simp) ?_
  refine AllReadyH.cons rfl (fun K hK => ?_) AllReadyH.nil
  try rw [if_pos (by rfl)]
  go_simp
  refine hK.out _ _ (HC.out _ HM4.out) (fun hHeld2 => ?_)
  clear hK K hHeld
  have hHeld := hHeld2
  clear hHeld2
  try simp only [Act.put, List.setIfInBounds_toArray, List.set_cons_zero, List.set_cons_succ, List.getElem_toArray, List.getElem_cons_succ, List.getElem_cons_zero]
  refine wpAnyH_done (by kernel_rfl) ?_ _
  clear hHeld
  go_wp2
  go_end0
  with_reducible exact HP.out
end
end Go.Proofs.Ytkdfkhebjhnbmaa
