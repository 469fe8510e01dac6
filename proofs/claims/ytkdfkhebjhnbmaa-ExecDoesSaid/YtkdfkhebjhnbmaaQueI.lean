/- Package queue: the last timer taken away, with the map of their places. -/
import Derived.Test.YtkdfkhebjhnbmaaQueH
set_option linter.unusedSimpArgs false
set_option linter.unusedVariables false
namespace Go.Proofs.Ytkdfkhebjhnbmaa
open Go.ChangeShapes Go.WideShapes Go.ChangeAt Go.RowKit Go.Base Go.Que

section
variable {w w' : World} {F G : Nat → Prop} {q c mb n : Nat} {A : Option Addr} {D : DataW Unit} {f : Nat → Tm} {turns : Int}
def PPop (F : Nat → Prop) (q : Nat) (f : Nat → Tm) (n : Nat) (turns : Int) (t : Tm) (w : World) (e : Ending) (w' : World) : Prop := e = .returned (.iface 82 (tmV t)) ∧ Que w' F q f n turns ∧ Moved F w w'
set_option maxHeartbeats 2000000 in
set_option maxRecDepth 20000 in
theorem ppop_any {m : Nat} (h : Que w F q f (m + 1) turns) : Calls Try.prog 59 #[.pointer (some ⟨q, 0, none⟩)] w (PPop F q f m turns (f m) w) := by
  obtain ⟨A, c, mb, D, h⟩ := h
  obtain ⟨g, rfl, _⟩ := h.row.at_ (Nat.lt_succ_self m)
  have H := Lib.hid h
  have HRP := Lib.hid (rpop_any h.row)
  have HA := Lib.hid (fun V => assert_tm (f m).at_ (f m).id (f m).turn V)
  have hq : q < w.heap.size := World.block_lt_of_cell? w _ h.cells.1
  have HQM : Hid (q ≠ mb) := Lib.hid (map_ne h.map h.row.self)
  have HGM : Hid (g ≠ mb) := Lib.hid (map_apart h.map h.row.own.choose_spec.1 g rfl)
  have HFit := Lib.hid (h.fit m (Nat.lt_succ_self m)).2.1
  obtain ⟨a, ha⟩ : ∃ a, a = f m := ⟨_, rfl⟩
  rw [← ha] at HRP HA HFit ⊢
  have HPl : Hid (Plc (D.del (kv a.id)) m f) := Lib.hid (by rw [ha]; exact plc_pop h.plc)
  clear ha h
  have hTA := HA.out
  go_enter Try.func59, Try.ntmps59
  go_upto_region 2 with (go_at_call 65; refine Calls.mono (by with_reducible exact HRP.out) ?_; rintro en w1 ⟨rfl, hr1, hm1⟩; simp only [tmV]; have HR1 := Lib.hid hr1; have HM1 := Lib.hid hm1; clear hr1 hm1)
  have hmap1 := own_map_moved H.out.map HM1.out (fun e => HQM.out e.symm)
  have hD := (below_alloc w1 (.cells #[.int .i64 a.at_, .int .i64 a.id, .int .i64 a.turn] 82)).drew
  have hmap2 := own_map_moved (q := fun _ => False) hmap1 (Below.movedNew hD) (fun e => e)
  obtain ⟨w4, e4, how4, htu⟩ := hmap2.drop law_int Try.underlying72 (key_int HFit.out.1 HFit.out.2) 0
  have hm4 : Moved (fun k => k = mb) (w1.alloc (.cells #[.int .i64 a.at_, .int .i64 a.id, .int .i64 a.turn] 82)) w4 := (Moved.refl (fun k => k = mb) _).drew.trans (q := fun k => k = mb) (Moved.grown (p := fun k => k = mb) (Moved.refl (fun k => k = mb) _) htu.grown (fun k _ e => (Option.some.inj e).symm)) (fun _ _ e => e)
  have q1 : w1.cell? ⟨q, 1, none⟩ = some (.map (some mb)) := cell_of_row w1 q 1 _ _ _ HR1.out.self
  have q2 : (w1.alloc (.cells #[.int .i64 a.at_, .int .i64 a.id, .int .i64 a.turn] 82)).cell? ⟨q, 1, none⟩ = some (.map (some mb)) := cell_old _ q1
  have hmlt : mb < w1.heap.size := by
    obtain ⟨es, clock, hb, _⟩ := hmap1
    exact heap_lt hb
  have hmne : w1.heap.size ≠ mb := by omega
  have c0 : w4.cell? ⟨w1.heap.size, 0, none⟩ = some (.int .i64 a.at_) := hm4.cell (cell_new w1 _ _ _ 0) hmne
  have c1 : w4.cell? ⟨w1.heap.size, 1, none⟩ = some (.int .i64 a.id) := hm4.cell (cell_new w1 _ _ _ 1) hmne
  have c2 : w4.cell? ⟨w1.heap.size, 2, none⟩ = some (.int .i64 a.turn) := hm4.cell (cell_new w1 _ _ _ 2) hmne
  have b1 : (w1.alloc (.cells #[.int .i64 a.at_, .int .i64 a.id, .int .i64 a.turn] 82)).cell? ⟨w1.heap.size, 1, none⟩ = some (.int .i64 a.id) := cell_new w1 _ _ _ 1
  have q4 : w4.cell? ⟨q, 1, none⟩ = some (.map (some mb)) := hm4.cell q2 HQM.out
  have HP : Hid (PPop F q f m turns a w (.returned (.iface 82 (.agg #[.int .i64 a.at_, .int .i64 a.id, .int .i64 a.turn]))) w4) := Lib.hid (by
    have hall : Moved (fun k => k = mb) w1 w4 := (Below.movedNew (below_alloc w1 _)).trans (q := fun k => k = mb) hm4 (fun _ _ e => e)
    refine ⟨rfl, ⟨some ⟨g, 0, none⟩, c, mb, _, ⟨HR1.out.moved hall HQM.out (fun k hk e => HGM.out ((Option.some.inj hk).trans e)), own_exact how4, HPl.out, fun k hk => H.out.fit k (by omega), ⟨H.out.inF.1, H.out.inF.2.1, fun k hk => H.out.inF.2.2 k hk⟩⟩⟩, ?_⟩
    exact (HM1.out.weaken (fun k _ e => by rw [e]; exact H.out.inF.1)).trans hall (fun k _ e => by rw [e]; exact H.out.inF.2.1))
  clear hmap1 hD hmap2 how4 htu hm4 q1 hmlt hmne
  refine wp_region_held_drew (S := (fun w' => w'.cell? ⟨q, 1, none⟩ = some (.map (some mb)) ∧ w'.cell? ⟨w1.heap.size, 1, none⟩ = some (.int .i64 a.id))) (by kernel_rfl) ⟨q2, b1⟩ (fun hHeld => ?_)
  refine wpAnyH_take (i := 0) (v := ?vv1) rfl (by kernel_rfl) (by kernel_rfl) (by kernel_rfl) (fun _ _ _ h => h) (Or.inl ⟨by rfl, ?hy1⟩) hHeld ?rr1
  case hy1 => (intro w' hSw; obtain ⟨g1, g2⟩ := hSw; go_simp; try with_reducible rfl)
  try simp only [Act.put, List.setIfInBounds_toArray, List.set_cons_zero, List.set_cons_succ, List.getElem_toArray, List.getElem_cons_succ, List.getElem_cons_zero]
  refine wpAnyH_take (i := 1) (v := ?vv2) rfl (by kernel_rfl) (by kernel_rfl) (by kernel_rfl) (fun _ _ _ h => h) (Or.inl ⟨by rfl, ?hy2⟩) hHeld ?rr2
  case hy2 => (intro w' hSw; obtain ⟨g1, g2⟩ := hSw; go_simp; try with_reducible rfl)
  try simp only [Act.put, List.setIfInBounds_toArray, List.set_cons_zero, List.set_cons_succ, List.getElem_toArray, List.getElem_cons_succ, List.getElem_cons_zero]
  refine wpAnyH_take (i := 2) (v := ?vv3) rfl (by kernel_rfl) (by kernel_rfl) (by kernel_rfl) (fun _ _ _ h => h) (Or.inl ⟨by rfl, ?hy3⟩) hHeld ?rr3
  case hy3 => (intro w' hSw; obtain ⟨g1, g2⟩ := hSw; go_simp; try with_reducible rfl)
  try simp only [Act.put, List.setIfInBounds_toArray, List.set_cons_zero, List.set_cons_succ, List.getElem_toArray, List.getElem_cons_succ, List.getElem_cons_zero]
  refine wpAnyH_take (i := 3) (v := ?vv4) rfl (by kernel_rfl) (by kernel_rfl) (by kernel_rfl) (fun _ _ _ h => h) (Or.inl ⟨by rfl, ?hy4⟩) hHeld ?rr4
  case hy4 => (intro w' hSw; obtain ⟨g1, g2⟩ := hSw; go_simp; try with_reducible rfl)
  try simp only [Act.put, List.setIfInBounds_toArray, List.set_cons_zero, List.set_cons_succ, List.getElem_toArray, List.getElem_cons_succ, List.getElem_cons_zero]
  refine wpAnyH_take (i := 4) (v := ?vv5) rfl (by kernel_rfl) (by kernel_rfl) (by kernel_rfl) (fun _ _ _ h => h) (Or.inl ⟨by rfl, ?hy5⟩) hHeld ?rr5
  case hy5 => (intro w' hSw; obtain ⟨g1, g2⟩ := hSw; go_simp; try with_reducible rfl)
  try simp only [Act.put, List.setIfInBounds_toArray, List.set_cons_zero, List.set_cons_succ, List.getElem_toArray, List.getElem_cons_succ, List.getElem_cons_zero]
  refine wpAnyH_take (i := 5) (v := ?vv6) rfl (by kernel_rfl) (by kernel_rfl) (by kernel_rfl) (fun _ _ _ h => h) (Or.inl ⟨by rfl, ?hy6⟩) hHeld ?rr6
  case hy6 => (intro w' hSw; obtain ⟨g1, g2⟩ := hSw; go_simp; try with_reducible rfl)
  try simp only [Act.put, List.setIfInBounds_toArray, List.set_cons_zero, List.set_cons_succ, List.getElem_toArray, List.getElem_cons_succ, List.getElem_cons_zero]
  refine wpAnyH_take (i := 6) (v := ?vv7) rfl (by kernel_rfl) (by kernel_rfl) (by kernel_rfl) (fun _ _ _ h => h) (Or.inl ⟨by rfl, ?hy7⟩) hHeld ?rr7
  case hy7 => (intro w' hSw; obtain ⟨g1, g2⟩ := hSw; go_simp; try with_reducible rfl)
  try simp only [Act.put, List.setIfInBounds_toArray, List.set_cons_zero, List.set_cons_succ, List.getElem_toArray, List.getElem_cons_succ, List.getElem_cons_zero]
  refine wpAnyH_ready (rs := [7]) (by kernel_rfl) (by simp) ?_
  refine AllReadyH.cons rfl (fun K hK => ?_) AllReadyH.nil
  try rw [if_pos (by rfl)]
  go_simp
  refine hK.out _ _ ⟨q4, c1⟩ (fun hHeld2 => ?_)
  clear hK K hHeld
  have hHeld := hHeld2
  clear hHeld2
  try simp only [Act.put, List.setIfInBounds_toArray, List.set_cons_zero, List.set_cons_succ, List.getElem_toArray, List.getElem_cons_succ, List.getElem_cons_zero]
  refine wpAnyH_done (by kernel_rfl) ?_ _
  clear hHeld
  go_wp2
  go_ret
  exact HP.out
end
end Go.Proofs.Ytkdfkhebjhnbmaa
