/- Package exec: New, Finish. -/
import Derived.Test.YtkdfkhebjhnbmaaExeD
set_option linter.unusedSimpArgs false
set_option linter.unusedVariables false
namespace Go.Proofs.Ytkdfkhebjhnbmaa
open Go.ChangeShapes Go.WideShapes Go.ChangeAt Go.RowKit Go.Base Go.Que Go.Exe

def NewPost (slots : Int) (w : World) (e : Ending) (w' : World) : Prop := ∃ x F, e = .returned (.tuple #[.pointer (some ⟨x, 0, none⟩), .int .i64 0]) ∧ EX F w' x slots 0 [] ∧ (∀ k, F k → w.heap.size ≤ k) ∧ Below w.heap.size w w'
theorem xnew_bad {slots : Int} (h : slots < 1 ∨ 65536 < slots) (w : World) : Calls Try.prog 7 #[.int .i64 slots] w fun e w' => e = .returned (.tuple #[.pointer none, .int .i64 1]) ∧ w = w' := by
  by_cases h1 : slots < 1
  · clear h
    go_enter Try.func7, Try.ntmps7
    go_wp2
    go_ret2
    exact ⟨rfl, rfl⟩
  · have h2 : 65536 < slots := by omega
    clear h
    go_enter Try.func7, Try.ntmps7
    go_wp2
    go_ret2
    exact ⟨rfl, rfl⟩
set_option maxHeartbeats 1000000 in
theorem xnew_ok {slots : Int} (h1 : 1 ≤ slots) (h2 : slots ≤ 65536) (w : World) : Calls Try.prog 7 #[.int .i64 slots] w (NewPost slots w) := by
  have hmm := @run_makeMap Try.prog
  have HN := Lib.hid (fun V => newF V)
  have g1 : ¬ slots < 1 := by omega
  have g2 : ¬ 65536 < slots := by omega
  have hs2 : ((w.alloc (.map #[] 0)).alloc (.map #[] 0)).heap.size = w.heap.size + 2 := by simp
  go_enter Try.func7, Try.ntmps7
  go_wp2_with (go_at_call 22; refine Calls.mono (HN.out _) ?_; rintro e w3 ⟨q, K, rfl, hq, hK, hb⟩; have HQ := Lib.hid hq; have HK := Lib.hid hK; have HB := Lib.hid hb; clear hq hK hb)
  go_ret2
  have hB := HB.out
  have hsz := hB.size
  rw [hs2] at hsz
  have hB2 : Below w.heap.size w w3 := ((below_alloc w _).alloc (by simp) _).trans (hB.mono (by rw [hs2]; omega))
  have hm1 : (w.alloc (.map #[] 0)).ownsMap Try.prog 32 idE w.heap.size 0 (.map []) := World.ownsMap_made w _ _ _
  have hm2 : ((w.alloc (.map #[] 0)).alloc (.map #[] 0)).ownsMap Try.prog 3 idE (w.heap.size + 1) 0 (.map []) := by
    have := World.ownsMap_made (H := Value) (P := Try.prog) (w.alloc (.map #[] 0)) 3 idE
    simpa using this
  have hA : Moved (fun _ => False) ((w.alloc (.map #[] 0)).alloc (.map #[] 0)) (w3.alloc (.cells (exC slots 0 w.heap.size (w.heap.size + 1) q) 60)) := (Below.movedNew hB).alloc _
  have hA1 : Moved (fun _ => False) (w.alloc (.map #[] 0)) (w3.alloc (.cells (exC slots 0 w.heap.size (w.heap.size + 1) q) 60)) := (Moved.alloc (Moved.refl _ _) _).trans hA (fun _ _ h => h)
  have hX : ExX (fun k => w.heap.size ≤ k) (w3.alloc (.cells (exC slots 0 w.heap.size (w.heap.size + 1) q) 60)) w3.heap.size slots 0 [] w.heap.size (w.heap.size + 1) q (.map []) (.map []) K := by
    refine ⟨⟨⟨h1, h2⟩, by simp; omega, List.Pairwise.nil, (fun a ha => by cases ha), (fun a ha => by cases ha), (fun a ha => by cases ha), (fun a ha => by cases ha), by omega⟩, heap_new w3 _, own_exact (own_map_moved hm1 hA1 (fun h => h)), own_exact (own_map_moved hm2 hA (fun h => h)),
      (MapIs.none _ _).same (fun r => ⟨fun h => h.elim, fun h => by cases h⟩), (MapIs.none _ _).same (fun r => ⟨fun h => h.elim, fun h => by cases h⟩),
      (HQ.out.later (below_alloc w3 _)).same (fun t => ⟨fun h => h.elim, fun ⟨r, h, _⟩ => by cases h⟩), ⟨by omega, fun h => ?_, fun h => ?_, fun h => ?_⟩, ⟨hB2.size, Nat.le_refl _, Nat.le_succ _, fun k hk => ?_⟩⟩
    · have := HQ.out.2 _ h; omega
    · have := HK.out _ h; rw [hs2] at this; omega
    · have := HK.out _ h; rw [hs2] at this; omega
    · have := HK.out _ hk; rw [hs2] at this; omega
  refine ⟨w3.heap.size, _, rfl, hX.tight, fun k hk => ?_, hB2.alloc hB2.size _⟩
  rcases hk with rfl | rfl | rfl | hk
  · exact hB2.size
  · exact Nat.le_refl _
  · exact Nat.le_succ _
  · have := HK.out _ hk; rw [hs2] at this; omega
section
variable {F G K : Nat → Prop} {w w' : World} {x nb gb q n : Nat} {slots started : Int} {L : List Rn} {DN DG : DataW Value}
theorem ts_del {r : Rn} (h : Ok slots started L) (hr : r ∈ L) (t : Tm) : (TS L t ∧ t.id ≠ r.num) ↔ TS (del L r.num) t := by
  constructor
  · rintro ⟨⟨a, ha, rfl⟩, hne⟩
    exact ⟨a, mem_del.2 ⟨ha, hne⟩, rfl⟩
  · rintro ⟨a, ha, rfl⟩
    obtain ⟨h1, h2⟩ := mem_del.1 ha
    exact ⟨⟨a, h1, rfl⟩, h2⟩
theorem mem_del_ne {r : Rn} (h : Ok slots started L) (hr : r ∈ L) (a : Rn) : (a ∈ L ∧ a ≠ r) ↔ a ∈ del L r.num := by
  rw [mem_del]
  constructor
  · rintro ⟨h1, h2⟩; exact ⟨h1, fun e => h2 (h.nums a h1 r hr e)⟩
  · rintro ⟨h1, h2⟩; exact ⟨h1, fun e => h2 (by rw [e])⟩
/-- The queue has dropped a run's timer: then leave. -/
theorem leave_ex {K' : Nat → Prop} {w1 : World} {r : Rn} (h : ExX F w x slots started L nb gb q DN DG K) (hr : r ∈ L) (hm : Moved K w w1) (hq : QF K' w1 q (TS (del L r.num)) (del L r.num).length started) (hK : ∀ k, K' k → K k ∨ w.heap.size ≤ k) :
    Calls Try.prog 26 #[.pointer (some ⟨x, 0, none⟩), .int .i64 r.num] w1 fun e w' => e = .returned (goV r) ∧ (∃ F', EX F' w' x slots started (del L r.num) ∧ ∀ k, F' k → F k ∨ w.heap.size ≤ k) ∧ Moved F w w' := by
  have hlen := len_del (fun a ha e => h.ok.nums a ha r hr e) h.ok.asc hr
  have hnm := own_map_moved h.nmap hm h.apart.2.2.1
  have hgm := own_map_moved h.gmap hm h.apart.2.2.2
  have hself := hm.heap h.self h.apart.2.1
  have hxl := heap_lt h.self
  have hnl : nb < w.heap.size := by obtain ⟨es, clock, hb, _⟩ := h.nmap; exact heap_lt hb
  have hgl : gb < w.heap.size := by obtain ⟨es, clock, hb, _⟩ := h.gmap; exact heap_lt hb
  have hnis := h.nis
  have hgis := h.gis
  rw [← hlen] at hnis hgis
  refine (leave_any hself hnm hgm hnis hgis hr (fun a ha => ⟨(h.ok.fit a ha).1, h.ok.tmfit ha⟩) (fun a ha e => h.ok.keys a ha r hr e) (fun a ha e => h.ok.nums a ha r hr e) h.apart.1).mono ?_
  rintro e w' ⟨he, ⟨DN', DG', g1, g2, g3, g4⟩, hm2⟩
  have hK0 : ∀ {k}, k < w.heap.size → K' k → K k := fun {k} hk hk' => (hK k hk').elim id (fun h => by omega)
  have hX : ExX (fun k => F k ∨ w.heap.size ≤ k) w' x slots started (del L r.num) nb gb q DN' DG' K' := by
    refine ⟨h.ok.del _, hm2.heap hself ?_, g1, g2, g3.same (mem_del_ne h.ok hr), g4.same (mem_del_ne h.ok hr), hq.kept hm2 ?_, ⟨h.apart.1, fun h1 => h.apart.2.1 (hK0 hxl h1), fun h1 => h.apart.2.2.1 (hK0 hnl h1), fun h1 => h.apart.2.2.2 (hK0 hgl h1)⟩,
      ⟨.inl h.inF.1, .inl h.inF.2.1, .inl h.inF.2.2.1, fun k hk => (hK k hk).imp (h.inF.2.2.2 k) id⟩⟩
    · rintro (e | e)
      · exact h.n_ne h.self e
      · exact h.g_ne h.self e
    · rintro k hk (e | e)
      · subst e; exact h.apart.2.2.1 (hK0 hnl hk)
      · subst e; exact h.apart.2.2.2 (hK0 hgl hk)
  refine ⟨he, ⟨_, hX.tight, fun k hk => ?_⟩, ?_⟩
  · rcases hk with rfl | rfl | rfl | hk
    · exact .inl h.inF.1
    · exact .inl h.inF.2.1
    · exact .inl h.inF.2.2.1
    · exact (hK k hk).imp (h.inF.2.2.2 k) id
  · refine (hm.weaken (fun k _ hk => h.inF.2.2.2 k hk)).trans hm2 (fun k _ hk => ?_)
    rcases hk with rfl | rfl
    · exact h.inF.2.1
    · exact h.inF.2.2.1
set_option maxHeartbeats 1000000 in
set_option maxRecDepth 20000 in
theorem xfinish_miss (h : ExX F w x slots started L nb gb q DN DG K) {k : Ky} (hk : kyfit k) (hn : ∀ r ∈ L, r.key ≠ k) : Calls Try.prog 12 #[.pointer (some ⟨x, 0, none⟩), kyV k] w fun e w' => e = .returned (.int .i64 4) ∧ Below w.heap.size w w' := by
  obtain ⟨j, o, g⟩ := k
  have HB1 := Lib.hid (below_alloc w (.cells #[.string j, .int .i64 o, .int .i64 g] 32))
  have HC := Lib.hid (fun V (hV : Below w.heap.size w V) => xclosed (h.later hV))
  have h2 : Hid (∀ V, Below w.heap.size w V → V.cell? ⟨x, 2, none⟩ = some (.map (some nb)) ∧ (Instr.lookup 55 (.map (some nb)) (.agg #[.string j, .int .i64 o, .int .i64 g]) true).run Try.prog V = .ok (.tuple #[.int .i64 0, .bool false]) V) :=
    Lib.hid (fun V hV => ⟨(h.later hV).cells.2.2.1, names_miss (h.later hV) hk hn⟩)
  clear h hk hn
  go_enter Try.func12, Try.ntmps12
  go_wp2_with (go_at_call 23; refine Calls.mono (HC.out _ HB1.out) ?_; rintro e w1 ⟨rfl, rfl⟩)
  have c2 := (h2.out _ HB1.out).1
  have l1 := fun k => (h2.out _ (below_drewN HB1.out k)).2
  go_quiet (fail)
  go_wp2
  go_ret
  exact ⟨rfl, below_drewN HB1.out _⟩
set_option maxHeartbeats 1000000 in
set_option maxRecDepth 20000 in
theorem xfinish_hit (h : ExX F w x slots started L nb gb q DN DG K) {r : Rn} (hr : r ∈ L) : Calls Try.prog 12 #[.pointer (some ⟨x, 0, none⟩), kyV r.key] w (OpE F x slots started (del L r.num) (.int .i64 0) w) := by
  have hlen := len_del (fun a ha e => h.ok.nums a ha r hr e) h.ok.asc hr
  have HD : Hid (∀ V, Below w.heap.size w V → Calls Try.prog 25 #[.pointer (some ⟨q, 0, none⟩), .int .i64 r.num] V (OpF K q (TS (del L r.num)) (del L r.num).length started (.bool true) V)) := Lib.hid (fun V hV => by
    have hq := (h.later hV).que
    rw [← hlen] at hq
    exact (dropF_hit hq (t0 := tmR r) ⟨r, hr, rfl⟩).mono fun e w' hp => hp.same (ts_del h.ok hr))
  have HL := Lib.hid (fun V (hV : Below w.heap.size w V) w1 K' (hm : Moved K V w1) (hq : QF K' w1 q (TS (del L r.num)) (del L r.num).length started) (hK : ∀ k, K' k → K k ∨ V.heap.size ≤ k) => leave_ex (h.later hV) hr hm hq hK)
  have HB1 := Lib.hid (below_alloc w (.cells #[.string r.key.job, .int .i64 r.key.occ, .int .i64 r.key.host] 32))
  have HC := Lib.hid (fun V (hV : Below w.heap.size w V) => xclosed (h.later hV))
  have h2 : Hid (∀ V, Below w.heap.size w V → V.cell? ⟨x, 2, none⟩ = some (.map (some nb)) ∧ V.cell? ⟨x, 4, none⟩ = some (.pointer (some ⟨q, 0, none⟩)) ∧ (Instr.lookup 55 (.map (some nb)) (.agg #[.string r.key.job, .int .i64 r.key.occ, .int .i64 r.key.host]) true).run Try.prog V = .ok (.tuple #[.int .i64 r.num, .bool true]) V) :=
    Lib.hid (fun V hV => ⟨(h.later hV).cells.2.2.1, (h.later hV).cells.2.2.2.2, names_hit (h.later hV) hr⟩)
  have HF : Hid (∀ V, Below w.heap.size w V → Moved F w V) := Lib.hid (fun V hV => Below.movedNew hV)
  clear h hlen hr
  generalize del L r.num = L' at *
  obtain ⟨⟨j, o, g⟩, u, num⟩ := r
  simp only [] at HD HL HB1 h2
  go_enter Try.func12, Try.ntmps12
  go_wp2_with (go_at_call 23; refine Calls.mono (HC.out _ HB1.out) ?_; rintro e w1 ⟨rfl, rfl⟩)
  have c2 := (h2.out _ HB1.out).1
  have c4 := (h2.out _ HB1.out).2.1
  have l1 := fun k => (h2.out _ (below_drewN HB1.out k)).2.2
  go_quiet (fail)
  go_wp2_with (first
    | (go_at_call 25; refine Calls.mono (HD.out _ (below_drewN HB1.out _)) ?_; rintro e w2 ⟨rfl, ⟨K', hq, hK⟩, hm⟩; have HQ := Lib.hid hq; have HK := Lib.hid hK; have HM := Lib.hid hm; clear hq hK hm)
    | (go_at_call 26; refine Calls.mono (HL.out _ (below_drewN HB1.out _) _ K' HM.out HQ.out HK.out) ?_; rintro e w3 ⟨rfl, ⟨F', hx, hF⟩, hm3⟩; have HX := Lib.hid hx; have HF' := Lib.hid hF; have HM3 := Lib.hid hm3; clear hx hF hm3))
  go_ret
  exact ⟨rfl, ⟨F', HX.out, fun k hk => (HF'.out k hk).imp id (fun h => by simp at h; omega)⟩, (HF.out _ (below_drewN HB1.out _)).trans HM3.out (fun _ _ h => h)⟩
end
end Go.Proofs.Ytkdfkhebjhnbmaa
