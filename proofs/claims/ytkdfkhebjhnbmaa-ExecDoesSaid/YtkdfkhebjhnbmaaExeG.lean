/- Package exec: Start lets a run go on. -/
import Derived.Test.YtkdfkhebjhnbmaaExeF
set_option linter.unusedSimpArgs false
set_option linter.unusedVariables false
namespace Go.Proofs.Ytkdfkhebjhnbmaa
open Go.ChangeShapes Go.WideShapes Go.ChangeAt Go.RowKit Go.Base Go.Que Go.Exe

section
variable {F G K : Nat → Prop} {w w' : World} {x nb gb q n : Nat} {slots started : Int} {L : List Rn} {DN DG : DataW Value}
theorem ts_ins {k : Ky} {u num : Int} (h : ∀ r ∈ L, r.num ≠ num) (t : Tm) : (t = ⟨u, num, num⟩ ∨ (TS L t ∧ t.id ≠ num)) ↔ TS (insR ⟨k, u, num⟩ L) t := by
  constructor
  · rintro (rfl | ⟨⟨a, ha, rfl⟩, hne⟩)
    · exact ⟨⟨k, u, num⟩, mem_insR.2 (.inl rfl), rfl⟩
    · exact ⟨a, mem_insR.2 (.inr ha), rfl⟩
  · rintro ⟨a, ha, rfl⟩
    rcases mem_insR.1 ha with rfl | ha
    · exact .inl rfl
    · exact .inr ⟨⟨a, ha, rfl⟩, h a ha⟩
set_option maxHeartbeats 1000000 in
set_option maxRecDepth 20000 in
theorem started_ex {k : Ky} {u : Int} {V w3 w5 w6 : World} {K' : Nat → Prop} {b0 : Nat} (h : ExX F w x slots started L nb gb q DN DG K) (hk : kyfit k) (hn : ∀ r ∈ L, r.key ≠ k) (hi : i64 u) (hf : (L.length : Int) < slots) (hst : started + 1 < 4611686018427387904)
    (hV : Below w.heap.size w V) (hm : Moved K V w3) (hq : QF K' w3 q (TS (insR ⟨k, u, started + 1⟩ L)) (L.length + 1) (started + 1)) (hK : ∀ i, K' i → K i ∨ V.heap.size ≤ i) (hW : Wrote x nb gb q slots (started + 1) DN DG k u b0 w3 w5 w6) :
    (∃ F', EX F' w6 x slots (started + 1) (insR ⟨k, u, started + 1⟩ L) ∧ ∀ k, F' k → F k ∨ w.heap.size ≤ k) ∧ Moved F w w6 := by
  obtain ⟨_, _, _, _, g1, ⟨m1, g2⟩, ⟨m2, g3⟩, g4⟩ := hW
  have hV0 := hV.size
  have hxl := heap_lt h.self
  have hnl : nb < w.heap.size := by obtain ⟨es, clock, hb, _⟩ := h.nmap; exact heap_lt hb
  have hgl : gb < w.heap.size := by obtain ⟨es, clock, hb, _⟩ := h.gmap; exact heap_lt hb
  have hK0 : ∀ {k}, k < w.heap.size → K' k → K k := fun {k} hk hk' => (hK k hk').elim id (fun h => by omega)
  have hok := h.ok.ins hk hi hn hf hst
  have hX : ExX (fun k => F k ∨ w.heap.size ≤ k) w6 x slots (started + 1) (insR ⟨k, u, started + 1⟩ L) nb gb q (DN.put (kl k) (.held (.int .i64 (started + 1)))) (DG.put (.int .i64 (started + 1)) (.held (goV ⟨k, u, started + 1⟩))) K' := by
    refine ⟨hok, g1, own_exact g2, own_exact g3, ?_, ?_, ?_, ⟨h.apart.1, fun h1 => h.apart.2.1 (hK0 hxl h1), fun h1 => h.apart.2.2.1 (hK0 hnl h1), fun h1 => h.apart.2.2.2 (hK0 hgl h1)⟩,
      ⟨.inl h.inF.1, .inl h.inF.2.1, .inl h.inF.2.2.1, fun k hk => (hK k hk).imp (h.inF.2.2.2 k) (fun h => Nat.le_trans hV0 h)⟩⟩
    · rw [len_insR]
      exact (h.nis.put (r := ⟨k, u, started + 1⟩) (kl_key hk) (fun a ha e => hn a ha (kl_inj (h.ok.fit a ha).1 hk e))).same (fun a => mem_insR.symm)
    · rw [len_insR]
      exact (h.gis.put (r := ⟨k, u, started + 1⟩) (by trivial) (fun a ha e => by
        have h1 : a.num = started + 1 := by injection e
        have := h.ok.num a ha; omega)).same (fun a => mem_insR.symm)
    · rw [len_insR]
      refine hq.kept g4 ?_
      rintro k hk (rfl | rfl | rfl)
      · exact h.apart.2.1 (hK0 hxl hk)
      · exact h.apart.2.2.1 (hK0 hnl hk)
      · exact h.apart.2.2.2 (hK0 hgl hk)
  refine ⟨⟨_, hX.tight, fun k hk => ?_⟩, ?_⟩
  · rcases hk with rfl | rfl | rfl | hk
    · exact .inl h.inF.1
    · exact .inl h.inF.2.1
    · exact .inl h.inF.2.2.1
    · exact (hK k hk).imp (h.inF.2.2.2 k) (fun h => Nat.le_trans hV0 h)
  · refine ((Below.movedNew (p := F) hV).trans hm (fun k _ hk => h.inF.2.2.2 k hk)).trans g4 (fun k _ hk => ?_)
    rcases hk with rfl | rfl | rfl
    · exact h.inF.1
    · exact h.inF.2.1
    · exact h.inF.2.2.1
set_option maxHeartbeats 2000000 in
set_option maxRecDepth 20000 in
theorem start_ok (h : ExX F w x slots started L nb gb q DN DG K) {k : Ky} (hk : kyfit k) (hn : ∀ r ∈ L, r.key ≠ k) {u now : Int} (hu : now < u) (hi : i64 u) (hf : (L.length : Int) < slots) (hst : started + 1 < 4611686018427387904) :
    Calls Try.prog 10 #[.pointer (some ⟨x, 0, none⟩), kyV k, .int .i64 u, .int .i64 now] w (OpE F x slots (started + 1) (insR ⟨k, u, started + 1⟩ L) (.int .i64 0) w) := by
  have hlk : ∀ V, Below w.heap.size w V → (Instr.lookup 55 (.map (some nb)) (kyV k) true).run Try.prog V = .ok (.tuple #[.int .i64 0, .bool false]) V := fun V hV => names_miss (h.later hV) hk hn
  have hp := h.ok.pos
  have hnums : ∀ r ∈ L, r.num ≠ started + 1 := fun r hr e => by have := h.ok.num r hr; omega
  have hroom := h.ok.room
  have hsn : i64 (started + 1) := by unfold i64; omega
  have HS : Hid (∀ V, Below w.heap.size w V → Calls Try.prog 24 #[.pointer (some ⟨q, 0, none⟩), .int .i64 (started + 1), .int .i64 u] V (OpF K q (TS (insR ⟨k, u, started + 1⟩ L)) (L.length + 1) (started + 1) (.int .i64 0) V)) := Lib.hid (fun V hV =>
    (setF_miss (h.later hV).que ⟨hi, hsn, hsn⟩ (fun t ⟨r, hr, e⟩ => by rw [← e]; exact hnums r hr) (by omega) hp.1).mono fun e w' hp => hp.same (ts_ins hnums))
  have HT : Hid (∀ V w3, Below w.heap.size w V → V.heap[w.heap.size]? = some (.cells #[.string k.job, .int .i64 k.occ, .int .i64 k.host] 32 (0, 0)) → Moved K V w3 → (∃ w5 w6, Wrote x nb gb q slots (started + 1) DN DG k u w.heap.size w3 w5 w6) ∧ w3.heap[x]? = some (.cells (exC slots started nb gb q) 60 (0, 0)) ∧ w3.heap[w.heap.size]? = some (.cells #[.string k.job, .int .i64 k.occ, .int .i64 k.host] 32 (0, 0))) := Lib.hid (fun V w3 hV hb hm => by
    have hx := h.later hV
    have hbK : ¬ K w.heap.size := fun e => by have := h.que.2 _ e; omega
    have hb3 := hm.heap hb hbK
    have hs3 := hm.heap hx.self h.apart.2.1
    refine ⟨start_maps hs3 (own_map_moved hx.nmap hm h.apart.2.2.1) (own_map_moved hx.gmap hm h.apart.2.2.2) hk hsn h.apart.1 (by rw [h.nis.size]; unfold maxLen; omega) (by rw [h.gis.size]; unfold maxLen; omega) hb3 (by have := heap_lt h.self; omega), hs3, hb3⟩)
  have HE := Lib.hid (fun V w3 w5 w6 K' (hV : Below w.heap.size w V) hm hq hK hW => started_ex (V := V) (w3 := w3) (w5 := w5) (w6 := w6) (K' := K') (b0 := w.heap.size) h hk hn hi hf hst hV hm hq hK hW)
  have hxl := heap_lt h.self
  have HB1 := Lib.hid (below_alloc w (.cells #[.string k.job, .int .i64 k.occ, .int .i64 k.host] 32))
  have HC := Lib.hid (fun V (hV : Below w.heap.size w V) => xclosed (h.later hV))
  have HFr : Hid (∀ V, Below w.heap.size w V → Calls Try.prog 21 #[.pointer (some ⟨x, 0, none⟩)] V fun e w' => e = .returned (.int .i64 (slots - (L.length : Int))) ∧ Below V.heap.size V w') := Lib.hid (fun V hV => xfree (h.later hV))
  have HCe : Hid (∀ V, Below w.heap.size w V → V.cell? ⟨x, 1, none⟩ = some (.int .i64 started) ∧ V.cell? ⟨x, 4, none⟩ = some (.pointer (some ⟨q, 0, none⟩))) := Lib.hid (fun V hV => ⟨(h.later hV).cells.2.1, (h.later hV).cells.2.2.2.2⟩)
  have c2 : ∀ V, Below w.heap.size w V → V.cell? ⟨x, 2, none⟩ = some (.map (some nb)) := fun V hV => (h.later hV).cells.2.2.1
  have c2 := c2 _ HB1.out
  have l1 := fun i => hlk _ (below_drewN HB1.out i)
  have hu2 : ¬ u ≤ now := by omega
  obtain ⟨free, hfr⟩ : ∃ free, free = slots - (L.length : Int) := ⟨_, rfl⟩
  have hfr0 : (free == 0) = false := by rw [beq_eq_false_iff_ne]; omega
  have hx1 : ¬ x = w.heap.size := by omega
  have hx2 : ¬ w.heap.size = x := by omega
  have hs1 : -9223372036854775808 ≤ started + 1 := hsn.1
  have hs2 : started + 1 ≤ 9223372036854775807 := hsn.2
  rw [← hfr] at HFr
  generalize insR ⟨k, u, started + 1⟩ L = L' at *
  obtain ⟨j, o, g⟩ := k
  clear h hlk hk hn hf hfr hnums hroom hsn hi hu hst hp
  go_enter Try.func10, Try.ntmps10
  go_wp2_with (go_at_call 23; refine Calls.mono (HC.out _ HB1.out) ?_; rintro e w1 ⟨rfl, rfl⟩)
  go_quiet (fail)
  clear c2 l1
  go_wp2_with (first
    | (go_at_call 21; refine Calls.mono (HFr.out _ (below_drewN HB1.out _)) ?_; rintro e w1 ⟨rfl, hb⟩; have HB2 := Lib.hid ((below_drewN HB1.out _).trans (hb.mono (by simp))); have HK2 := Lib.hid ((hb.block w.heap.size (by simp)).trans (show (w.alloc (.cells #[.string j, .int .i64 o, .int .i64 g] 32)).heap[w.heap.size]? = _ from heap_new w _)); have c1 := (HCe.out _ HB2.out).1; have c4 := (HCe.out _ HB2.out).2; clear hb)
    | (go_at_call 24; refine Calls.mono (HS.out _ HB2.out) ?_; rintro e w3 ⟨rfl, ⟨K', hq, hK⟩, hm⟩; obtain ⟨⟨w5, w6, hW⟩, e1, e2⟩ := HT.out _ w3 HB2.out HK2.out hm; have HEE := Lib.hid (HE.out _ w3 w5 w6 K' HB2.out hm hq hK hW); obtain ⟨y1, z1⟩ := cells_of_heap e1; obtain ⟨y2, z2⟩ := cells_of_heap e2; have a1 := y1 1; have a2 := y1 2; have a3 := y1 3; have b0 := y2 0; have b1 := y2 1; have b2 := y2 2; have f1 := z1 1; obtain ⟨r5, r6, d3, db, _⟩ := hW; have d0 := (db 0).trans b0; have d1 := (db 1).trans b1; have d2 := (db 2).trans b2; simp only [exC] at a1 a2 a3; clear hq hK hm e1 e2 y1 z1 y2 z2 db c1 c4))
  go_region
  go_wp2
  go_region
  go_wp2
  go_ret
  exact ⟨rfl, HEE.out⟩
end
end Go.Proofs.Ytkdfkhebjhnbmaa
