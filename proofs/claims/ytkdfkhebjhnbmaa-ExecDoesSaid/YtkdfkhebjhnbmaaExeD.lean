/- Package exec: leave. -/
import Derived.Test.YtkdfkhebjhnbmaaExeC
set_option linter.unusedSimpArgs false
set_option linter.unusedVariables false
namespace Go.Proofs.Ytkdfkhebjhnbmaa
open Go.ChangeShapes Go.WideShapes Go.ChangeAt Go.RowKit Go.Base Go.Que Go.Exe

section
variable {F G K : Nat → Prop} {w w' : World} {x nb gb q n : Nat} {slots started : Int} {L : List Rn} {DN DG : DataW Value} {M : Rn → Prop} {r : Rn}
/-- What leave leaves of the two maps. -/
def LeavePost (nb gb n : Nat) (M : Rn → Prop) (r : Rn) (w : World) (e : Ending) (w' : World) : Prop :=
  e = .returned (goV r) ∧ (∃ DN' DG', w'.ownsMap Try.prog 32 idE nb (Maps.size DN') DN' ∧ w'.ownsMap Try.prog 3 idE gb (Maps.size DG') DG' ∧ MapIs DN' (fun a => M a ∧ a ≠ r) n fkN fvN ∧ MapIs DG' (fun a => M a ∧ a ≠ r) n fkG fvG) ∧ Moved (fun k => k = nb ∨ k = gb) w w'
theorem turned_moved {w w' : World} {b : Nat} (h : w.mapTurned w' b) : Moved (fun k => k = b) w w' :=
  (Moved.refl _ w).grown h.grown (fun k _ e => (Option.some.inj e).symm)
set_option maxHeartbeats 2000000 in
set_option maxRecDepth 20000 in
theorem leave_any (hself : w.heap[x]? = some (.cells (exC slots started nb gb q) 60 (0, 0))) (hnm : w.ownsMap Try.prog 32 idE nb (Maps.size DN) DN) (hgm : w.ownsMap Try.prog 3 idE gb (Maps.size DG) DG)
    (hnis : MapIs DN M (n + 1) fkN fvN) (hgis : MapIs DG M (n + 1) fkG fvG) (hr : M r) (hfit : ∀ a, M a → kyfit a.key ∧ i64 a.num) (hky : ∀ a, M a → a.key = r.key → a = r) (hnu : ∀ a, M a → a.num = r.num → a = r) (hne : nb ≠ gb) :
    Calls Try.prog 26 #[.pointer (some ⟨x, 0, none⟩), .int .i64 r.num] w (LeavePost nb gb n M r w) := by
  have c2 : w.cell? ⟨x, 2, none⟩ = some (.map (some nb)) := cell_of_row w x 2 _ _ _ hself
  have c3 : w.cell? ⟨x, 3, none⟩ = some (.map (some gb)) := cell_of_row w x 3 _ _ _ hself
  have hgl : gb < w.heap.size := by obtain ⟨es, clock, hb, _⟩ := hgm; exact heap_lt hb
  have hnl : nb < w.heap.size := by obtain ⟨es, clock, hb, _⟩ := hnm; exact heap_lt hb
  have hxl : x < w.heap.size := heap_lt hself
  have xg : x ≠ gb := by obtain ⟨es, clock, hb, _⟩ := hgm; rintro rfl; rw [hself] at hb; cases hb
  have HM := Lib.hid (fun V (hV : Below w.heap.size w V) => own_map_moved (q := fun _ => False) hgm (Below.movedNew hV) (fun h => h))
  have HN := Lib.hid (fun V (hV : Moved (fun k => k = gb) w V) => own_map_moved hnm hV hne)
  have HGi := Lib.hid hgis
  have HNi := Lib.hid hnis
  have HR := Lib.hid hr
  have HK := Lib.hid (int_some (hfit r hr).2)
  have HK2 := Lib.hid (kl_some (hfit r hr).1)
  have HX := Lib.hid hself
  have HD := Lib.hid (fun a (ha : M a) (e : fkG a = fkG r) => hnu a ha (by injection e))
  have HE := Lib.hid (fun a (ha : M a) (e : fkN a = fkN r) => hky a ha (kl_inj (hfit a ha).1 (hfit r hr).1 e))
  obtain ⟨⟨j, o, g⟩, u, num⟩ := r
  have hl : (Instr.lookup 56 (.map (some gb)) (.int .i64 num) false).run Try.prog (w.alloc (.cells #[.string ⟨#[]⟩, .int .i64 0, .int .i64 0, .int .i64 0] 41)) = .ok (.agg #[.string j, .int .i64 o, .int .i64 g, .int .i64 u]) (w.alloc (.cells #[.string ⟨#[]⟩, .int .i64 0, .int .i64 0, .int .i64 0] 41)) :=
    look_id1 (HM.out _ (below_alloc _ _)) law_int Try.underlying56 (zero_going _) HK.out (hgis.at_ _ hr _)
  obtain ⟨W1, hW1⟩ : ∃ W1, W1 = (w.alloc (.cells #[.string ⟨#[]⟩, .int .i64 0, .int .i64 0, .int .i64 0] 41)).alloc (.cells #[.string j, .int .i64 o, .int .i64 g, .int .i64 u] 41) := ⟨_, rfl⟩
  have hB1 : Below w.heap.size w W1 := by rw [hW1]; exact (below_alloc _ _).alloc (by simp) _
  have hs1 : W1.heap.size = w.heap.size + 2 := by rw [hW1]; simp
  have k0 : W1.heap[w.heap.size]? = some (.cells #[.string ⟨#[]⟩, .int .i64 0, .int .i64 0, .int .i64 0] 41 (0, 0)) := by rw [hW1]; exact heap_old _ (by simp) (heap_new w _)
  have k1 : W1.heap[w.heap.size + 1]? = some (.cells #[.string j, .int .i64 o, .int .i64 g, .int .i64 u] 41 (0, 0)) := by
    rw [hW1]; have := heap_new (w.alloc (.cells #[.string ⟨#[]⟩, .int .i64 0, .int .i64 0, .int .i64 0] 41)) (.cells #[.string j, .int .i64 o, .int .i64 g, .int .i64 u] 41); simpa using this
  obtain ⟨w1, hd1, hg1, ht1⟩ := (HM.out W1 hB1).drop law_int Try.underlying56 HK.out 0
  have hm1 : Moved (fun k => k = gb) w w1 := (Below.movedNew hB1).trans (turned_moved ht1) (fun _ _ h => h)
  have hmt := turned_moved ht1
  have hn1 := HN.out w1 hm1
  obtain ⟨w2, hd2, hn2, ht2⟩ := (show (w1.drew).ownsMap Try.prog 32 idE nb (Maps.size DN) DN from hn1).drop law_key Try.underlying55 HK2.out 0
  have hmt2 : Moved (fun k => k = nb) w1 w2 := ((Moved.refl _ w1).drew).trans (turned_moved ht2) (fun _ _ h => h)
  have e1 := hmt.heap k1 (by omega)
  have e0 := hmt.heap k0 (by omega)
  obtain ⟨u1, v1⟩ := cells_of_heap e1
  have a0 := u1 0
  have a1 := u1 1
  have a2 := u1 2
  have a3 := u1 3
  have ax : w1.cell? ⟨x, 2, none⟩ = some (.map (some nb)) := hm1.cell c2 xg
  have hs2 : w1.heap.size = w.heap.size + 2 := by
    obtain ⟨_, _, _, _, _, e⟩ := ht1
    rw [e]; unfold ChangeMaps.setBlock; simp [hs1]
  have nn : ∀ {k cs t z}, w1.heap[k]? = some (.cells cs t z) → k ≠ nb := fun {k cs t z} hk e => by
    obtain ⟨es, clock, hb, _⟩ := hn1
    rw [← e, hk] at hb; cases hb
  have d1 := hmt2.heap e1 (nn e1)
  have d0 := hmt2.heap e0 (nn e0)
  obtain ⟨y1, z1⟩ := cells_of_heap d1
  obtain ⟨y0, z0⟩ := cells_of_heap d0
  have b0 := y1 0
  have b1 := y1 1
  have b2 := y1 2
  have b3 := y1 3
  have s0 := y0 0
  have s1 := y0 1
  have s2 := y0 2
  have s3 := y0 3
  have r0 := z0 0
  have r1 := z0 1
  have r2 := z0 2
  have r3 := z0 3
  have HM2 : Hid (Moved (fun k => k = nb ∨ k = gb) w w2) := Lib.hid ((hm1.weaken (fun _ _ h => .inr h)).trans hmt2 (fun _ _ h => .inl h))
  have hs3 : w2.heap.size = w.heap.size + 2 := by
    obtain ⟨_, _, _, _, _, e⟩ := ht2
    rw [e]; unfold ChangeMaps.setBlock; simp [hs2]
  have hG2 := own_map_moved hg1 hmt2 (fun e => hne e.symm)
  have HN2 := Lib.hid hn2
  have HG2 := Lib.hid hG2
  rw [hW1] at hd1
  have HW1 := Lib.hid hW1
  clear hself hnm hgm hnis hgis hr hfit hky hnu hn1 hmt hm1 ht1 k0 k1 hB1 hs1 u1 v1 e0 e1 hW1 hg1 nn d1 d0 y1 z1 y0 z0 hmt2 ht2 hn2 hG2
  go_enter Try.func26, Try.ntmps26
  go_wp2
  go_region
  go_wp2
  refine bodyPost_ret (v := .agg #[.string j, .int .i64 o, .int .i64 g, .int .i64 u]) ?_ rfl ?_
  · simp [results, Try.results26, go_sem, s0, s1, s2, s3]
  refine ⟨rfl, ?_, ?_⟩
  · have hmE : Moved (fun k => k = w.heap.size) w2 ((((w2.setCell ⟨w.heap.size, 0, none⟩ (.string j)).setCell ⟨w.heap.size, 1, none⟩ (.int .i64 o)).setCell ⟨w.heap.size, 2, none⟩ (.int .i64 g)).setCell ⟨w.heap.size, 3, none⟩ (.int .i64 u)) :=
      ((((Moved.refl (fun k => k = w.heap.size) w2).setCell (.inr rfl) _).setCell (.inr rfl) _).setCell (.inr rfl) _).setCell (.inr rfl) _
    refine ⟨DN.del (fkN ⟨⟨j, o, g⟩, u, num⟩), DG.del (fkG ⟨⟨j, o, g⟩, u, num⟩), own_exact (own_map_moved HN2.out hmE (by omega)), own_exact (own_map_moved HG2.out hmE (by omega)), HNi.out.del HR.out HE.out, HGi.out.del HR.out HD.out⟩
  · exact ((((HM2.out.setCell (.inl (Nat.le_refl _)) _).setCell (.inl (Nat.le_refl _)) _).setCell (.inl (Nat.le_refl _)) _).setCell (.inl (Nat.le_refl _)) _)
end
end Go.Proofs.Ytkdfkhebjhnbmaa
