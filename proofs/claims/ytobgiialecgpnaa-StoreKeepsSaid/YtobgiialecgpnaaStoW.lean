/- Walks of package store: List. -/
import Derived.Test.YtobgiialecgpnaaStoU
set_option linter.unusedSimpArgs false
set_option linter.unusedVariables false
namespace Go.Proofs.Ytobgiialecgpnaa
open Go.ChangeShapes Go.WideShapes Go.ChangeAt Go.RowKit Go.Base Go.Sto Go.Maps

theorem own_later {w1 w2 : World} {b n s : Nat} {e : TypeId} {v : Value} {xs : List Value} (h : w1.ownsRow b e s v n xs) (hb : Below w1.heap.size w1 w2) : w2.ownsRow b e s v n xs :=
  own_moved (p := fun k => False) h (Below.movedNew hb) (fun k hk h => h)
theorem own_apart2 {w : World} {b b' n n' s s' : Nat} {e e' : TypeId} {v v' : Value} {xs xs' : List Value} (h : w.ownsRow b e s v n xs) (h' : w.ownsRow b' e' s' v' n' xs') (hne : e ≠ e') (k : Nat) (hk : v.ownBlock = some k) : ¬ v'.ownBlock = some k := by
  intro hk'
  rcases h.2 with ⟨rfl, _⟩ | ⟨g, cap, cur, hv, _, hg, _⟩
  · cases hk
  rcases h'.2 with ⟨rfl, _⟩ | ⟨g', cap', cur', hv', _, hg', _⟩
  · cases hk'
  rw [hv] at hk; rw [hv'] at hk'
  have hk := Option.some.inj hk; have hk' := Option.some.inj hk'
  subst hk; subst hk'
  exact block_ne hg hg' hne rfl
/-- Files told: three cells each, the bytes in rows of the call's own. -/
def Lsd (w : World) (base : Nat) (vs : List Value) (l : List Fil) : Prop := vs.length = l.length * 3 ∧ ∀ (i : Nat) (h : i < l.length), ∃ a cp, vs[i * 3]? = some (.string ⟨l[i].name.toArray⟩) ∧ vs[i * 3 + 1]? = some (.slice a l[i].bytes.length cp) ∧ vs[i * 3 + 2]? = some (.int .i64 (l[i].sure : Int)) ∧ w.ownsRow base 5 1 (.slice a l[i].bytes.length cp) l[i].bytes.length (l[i].bytes.map u8v)
theorem Lsd.later {w w' : World} {base : Nat} {vs : List Value} {l : List Fil} (h : Lsd w base vs l) (hb : Below w.heap.size w w') : Lsd w' base vs l := ⟨h.1, fun i hi => by
  obtain ⟨a, cp, h1, h2, h3, o⟩ := h.2 i hi
  exact ⟨a, cp, h1, h2, h3, own_later o hb⟩⟩
theorem Lsd.grown {w w' : World} {base base2 n s : Nat} {e : TypeId} {v : Value} {ys vs : List Value} {l : List Fil} (h : Lsd w base vs l) (ho : w.ownsRow base2 e s v n ys) (hne : 5 ≠ e) (hg : w.grownBy w' v.ownBlock) : Lsd w' base vs l := ⟨h.1, fun i hi => by
  obtain ⟨a, cp, h1, h2, h3, o⟩ := h.2 i hi
  exact ⟨a, cp, h1, h2, h3, o.kept hg (by
    rcases hq : (Value.slice a l[i].bytes.length cp).ownBlock with _ | k
    · exact .inl rfl
    · exact .inr (fun e => own_apart2 o ho hne k hq e.symm))⟩⟩
theorem Lsd.add {w : World} {base cp : Nat} {vs : List Value} {l : List Fil} {a : Option Addr} {f : Fil} (h : Lsd w base vs l) (ho : w.ownsRow base 5 1 (.slice a f.bytes.length cp) f.bytes.length (f.bytes.map u8v)) : Lsd w base (vs ++ [.string ⟨f.name.toArray⟩, .slice a f.bytes.length cp, .int .i64 (f.sure : Int)]) (l ++ [f]) := by
  have hl := h.1
  refine ⟨by simp [hl]; omega, fun i hi => ?_⟩
  by_cases hi2 : i < l.length
  · obtain ⟨a, cp, h1, h2, h3, o⟩ := h.2 i hi2
    refine ⟨a, cp, ?_, ?_, ?_, ?_⟩
    · rw [List.getElem?_append_left (by omega), List.getElem_append_left hi2]; exact h1
    · rw [List.getElem?_append_left (by omega), List.getElem_append_left hi2]; exact h2
    · rw [List.getElem?_append_left (by omega), List.getElem_append_left hi2]; exact h3
    · rw [List.getElem_append_left hi2]; exact o
  · have hi3 : i = l.length := by rw [List.length_append] at hi; simp at hi; omega
    subst hi3
    refine ⟨a, cp, ?_, ?_, ?_, ?_⟩
    · rw [List.getElem?_append_right (by omega), hl, Nat.sub_self]; simp
    · rw [List.getElem?_append_right (by omega), hl, show l.length * 3 + 1 - l.length * 3 = 1 by omega]; simp
    · rw [List.getElem?_append_right (by omega), hl, show l.length * 3 + 2 - l.length * 3 = 2 by omega]; simp
    · simpa using ho
theorem cells_add {w : World} {g : Nat} {cs : Array Value} {t : TypeId} {z : Nat × Nat} (h : w.heap[g]? = some (.cells cs t z)) : ∀ j u, cs.toList[j]? = some u → w.cell? ((⟨g, 0, none⟩ : Addr).add j) = some u := fun j u hu => by
  have e : (⟨g, 0, none⟩ : Addr).add j = ⟨g, j, none⟩ := by unfold Addr.add; split <;> simp_all
  rw [e, cell_of_row _ _ j _ _ _ h, ← Array.getElem?_toList]; exact hu
theorem own_apart3 {w : World} {b b' n n' s s' : Nat} {e e' : TypeId} {v v' : Value} {xs xs' : List Value} (h : w.ownsRow b e s v n xs) (h' : w.ownsRow b' e' s' v' n' xs') (hne : e ≠ e') : v.ownBlock = none ∨ v.ownBlock ≠ v'.ownBlock := by
  rcases hq : v.ownBlock with _ | k
  · exact .inl rfl
  · exact .inr (fun e => own_apart2 h h' hne k hq e.symm)
def ListPost (files : List Fil) (w : World) (e : Ending) (w' : World) : Prop :=
  ∃ A c vs, e = .returned (.slice A files.length c) ∧ w'.ownsRow w.heap.size 47 3 (.slice A files.length c) files.length vs ∧ Lsd w' w.heap.size vs files ∧ Below w.heap.size w w'
set_option maxHeartbeats 4000000 in
set_option maxRecDepth 20000 in
theorem list_any {w : World} {F : Nat → Prop} {p bm : Nat} {D : DataW Unit} {es : List Ent} {room : Nat} {left : Int} (h : StoX w F p bm D es room left) :
    Calls Try.prog 18 #[.pointer (some ⟨p, 0, none⟩)] w (ListPost (es.map (·.f)) w) := by
  obtain ⟨i0, hinfo, hz0, hz1, hz2⟩ := info_parts (P := Try.prog) (e := 47) (z := .agg #[.string ⟨#[]⟩, .slice none 0 0, .int .i64 0]) (size := 3) (bytes := 48) (by kernel_rfl)
  have HC := Lib.hid (closed_any h)
  have HNm := Lib.hid (names_any h)
  have H := Lib.hid h
  have h64 := h.few
  clear h
  obtain ⟨N, HNN⟩ : ∃ N, Hid (N = es.length) := ⟨_, Lib.hid rfl⟩
  rw [← HNN.out] at h64
  go_enter Try.func18, Try.ntmps18
  go_wp2_with (first
    | (go_at_call 22; refine Calls.mono (by with_reducible exact HC.out) ?_; rintro e w1 ⟨rfl, rfl⟩)
    | (go_at_call 23; refine Calls.mono (by with_reducible exact HNm.out) ?_; rintro e w2 ⟨A2, c2, rfl, hrow, hb⟩; rw [List.length_map, ← HNN.out] at hrow ⊢; have HB2 := Lib.hid hb; have HRow := Lib.hid hrow; clear hb hrow))
  go_loopw [3, 12] (fun lv iv wr => ∃ (k : Nat) (PA : Option Addr) (pc : Nat) (vs : List Value), k ≤ N ∧ iv = .int .i64 (k : Int) ∧ lv = .slice PA k pc ∧ Hid (wr.ownsRow w.heap.size 47 3 (.slice PA k pc) k vs) ∧ Hid (Lsd wr w.heap.size vs ((es.take k).map (·.f))) ∧ Hid (wr.ownsRow w.heap.size 9 1 (.slice A2 N c2) N ((es.map (·.f.name)).map encStr)) ∧ Hid (Below w.heap.size w wr)) (fun _ iv _ => N - (intOf iv).toNat)
  case atStart => exact ⟨0, none, 0, [], Nat.zero_le _, rfl, rfl, Lib.hid (World.ownsRow_nil _ _ _ _), Lib.hid ⟨rfl, fun i hi => by cases hi⟩, HRow, HB2⟩
  case round =>
    obtain ⟨k, PA, pc, vs, hkN, rfl, rfl, HOw, HLs, HRr, HB⟩ := hrel
    have hkz : (0 : Int) ≤ (k : Int) := by omega
    by_cases hlt : k < N
    · have hlt' : (k : Int) < (N : Int) := by omega
      have hkl : k < es.length := by have := HNN.out; omega
      obtain ⟨g, rfl, c8⟩ := own_str_at HRr.out (k := k) (by rw [List.length_map]; exact hkl)
      rw [List.getElem_map] at c8
      have HTk : Hid (es.take (k + 1) = es.take k ++ [es[k]]) := Lib.hid (List.take_succ_eq_append_getElem hkl)
      have he : es[k] ∈ es := List.getElem_mem hkl
      obtain ⟨e, hf⟩ : ∃ e, e = es[k] := ⟨_, rfl⟩
      rw [← hf] at c8 HTk he
      clear hf hkl
      obtain ⟨s, hs1, hs2, hs3, hs4⟩ : ∃ s : ByteArray, encStr e.f.name = .string s ∧ s.data.toList = e.f.name ∧ s.size ≤ maxLen ∧ s = ⟨e.f.name.toArray⟩ := ⟨⟨e.f.name.toArray⟩, rfl, by simp, by
        have := H.out.named e he
        unfold okName at this
        rw [Bool.and_eq_true, Bool.and_eq_true, decide_eq_true_eq, decide_eq_true_eq] at this
        show e.f.name.toArray.size ≤ maxLen
        unfold maxLen
        simp; omega, rfl⟩
      rw [hs1] at c8
      have HXr := Lib.hid (H.out.later HB.out)
      have hrun := HXr.out.look_hit he hs3 hs2.symm false
      rw [if_neg (by simp)] at hrun
      have c5 := HXr.out.cells.1
      have hD := (Below.refl wr.heap.size wr).drew
      have HXd := Lib.hid (HXr.out.later hD)
      have hfile := HXd.out.file e he
      have HS0 : Hid ((fun w' => w'.cell? ⟨e.a, 0, none⟩ = some (.slice e.A e.f.bytes.length e.c) ∧ w'.cell? ⟨e.a, 1, none⟩ = some (.int .i64 (e.f.sure : Int))) wr.drew) := Lib.hid ⟨cell_of_row _ _ 0 _ _ _ hfile, cell_of_row _ _ 1 _ _ _ hfile⟩
      have hue : e.f.bytes.length ≤ used (es.map (·.f)) := used_le (List.mem_map.2 ⟨e, he, rfl⟩)
      have hfit := H.out.fits
      have HCl := Lib.hid (clone_any e.A e.f.bytes e.c wr.drew (own_byt_any (HXd.out.row e he)) (by omega))
      have HS4 := Lib.hid hs4
      have HHe := Lib.hid he
      clear hfile hue hfit hD he hs1 hs2 hs3 hs4
      go_wp2_with fail
      refine wp_region_held_drew (S := (fun w' => w'.cell? ⟨e.a, 0, none⟩ = some (.slice e.A e.f.bytes.length e.c) ∧ w'.cell? ⟨e.a, 1, none⟩ = some (.int .i64 (e.f.sure : Int)))) (by kernel_rfl) HS0.out (fun hHeld => ?_)
      refine wpAnyH_take (i := 0) (v := ?vv1) rfl (by kernel_rfl) (by kernel_rfl) (by kernel_rfl) (fun _ _ _ h => h) (Or.inl ⟨by rfl, ?hy1⟩) hHeld ?rr1
      case hy1 => (intro w' hSw; obtain ⟨g1, g2⟩ := hSw; go_simp; try with_reducible rfl)
      try simp only [Act.put, List.setIfInBounds_toArray, List.set_cons_zero, List.set_cons_succ, List.getElem_toArray, List.getElem_cons_succ, List.getElem_cons_zero]
      refine wpAnyH_take (i := 1) (v := ?vv2) rfl (by kernel_rfl) (by kernel_rfl) (by kernel_rfl) (fun _ _ _ h => h) (Or.inl ⟨by rfl, ?hy2⟩) hHeld ?rr2
      case hy2 => (intro w' hSw; obtain ⟨g1, g2⟩ := hSw; go_simp; try with_reducible rfl)
      try simp only [Act.put, List.setIfInBounds_toArray, List.set_cons_zero, List.set_cons_succ, List.getElem_toArray, List.getElem_cons_succ, List.getElem_cons_zero]
      refine wpAnyH_take (i := 2) (v := ?vv3) rfl (by kernel_rfl) (by kernel_rfl) (by kernel_rfl) (fun _ _ _ h => h) (Or.inl ⟨by rfl, ?hy3⟩) hHeld ?rr3
      case hy3 => (intro w' hSw; obtain ⟨g1, g2⟩ := hSw; go_simp; try with_reducible rfl)
      try simp only [Act.put, List.setIfInBounds_toArray, List.set_cons_zero, List.set_cons_succ, List.getElem_toArray, List.getElem_cons_succ, List.getElem_cons_zero]
      refine wpAnyH_take (i := 3) (v := ?vv4) rfl (by kernel_rfl) (by kernel_rfl) (by kernel_rfl) (fun _ _ _ h => h) (Or.inl ⟨by rfl, ?hy4⟩) hHeld ?rr4
      case hy4 => (intro w' hSw; obtain ⟨g1, g2⟩ := hSw; go_simp; try with_reducible rfl)
      try simp only [Act.put, List.setIfInBounds_toArray, List.set_cons_zero, List.set_cons_succ, List.getElem_toArray, List.getElem_cons_succ, List.getElem_cons_zero]
      refine wpAnyH_take (i := 4) (v := ?vv5) rfl (by kernel_rfl) (by kernel_rfl) (by kernel_rfl) (fun _ _ _ h => h) (Or.inl ⟨by rfl, ?hy5⟩) hHeld ?rr5
      case hy5 => (intro w' hSw; obtain ⟨g1, g2⟩ := hSw; go_simp; try with_reducible rfl)
      try simp only [Act.put, List.setIfInBounds_toArray, List.set_cons_zero, List.set_cons_succ, List.getElem_toArray, List.getElem_cons_succ, List.getElem_cons_zero]
      refine wpAnyH_take (i := 5) (v := ?vv6) rfl (by kernel_rfl) (by kernel_rfl) (by kernel_rfl) (fun _ _ _ h => h) (Or.inl ⟨by rfl, ?hy6⟩) hHeld ?rr6
      case hy6 => (intro w' hSw; obtain ⟨g1, g2⟩ := hSw; go_simp; try with_reducible rfl)
      try simp only [Act.put, List.setIfInBounds_toArray, List.set_cons_zero, List.set_cons_succ, List.getElem_toArray, List.getElem_cons_succ, List.getElem_cons_zero]
      refine wpAnyH_take (i := 7) (v := ?vv7) rfl (by kernel_rfl) (by kernel_rfl) (by kernel_rfl) (fun _ _ _ h => h) (Or.inl ⟨by rfl, ?hy7⟩) hHeld ?rr7
      case hy7 => (intro w' hSw; obtain ⟨g1, g2⟩ := hSw; go_simp; try with_reducible rfl)
      try simp only [Act.put, List.setIfInBounds_toArray, List.set_cons_zero, List.set_cons_succ, List.getElem_toArray, List.getElem_cons_succ, List.getElem_cons_zero]
      refine wpAnyH_take (i := 8) (v := ?vv8) rfl (by kernel_rfl) (by kernel_rfl) (by kernel_rfl) (fun _ _ _ h => h) (Or.inl ⟨by rfl, ?hy8⟩) hHeld ?rr8
      case hy8 => (intro w' hSw; obtain ⟨g1, g2⟩ := hSw; go_simp; try with_reducible rfl)
      try simp only [Act.put, List.setIfInBounds_toArray, List.set_cons_zero, List.set_cons_succ, List.getElem_toArray, List.getElem_cons_succ, List.getElem_cons_zero]
      refine wpAnyH_take (i := 9) (v := ?vv9) rfl (by kernel_rfl) (by kernel_rfl) (by kernel_rfl) (fun _ _ _ h => h) (Or.inl ⟨by rfl, ?hy9⟩) hHeld ?rr9
      case hy9 => (intro w' hSw; obtain ⟨g1, g2⟩ := hSw; go_simp; try with_reducible rfl)
      try simp only [Act.put, List.setIfInBounds_toArray, List.set_cons_zero, List.set_cons_succ, List.getElem_toArray, List.getElem_cons_succ, List.getElem_cons_zero]
      refine wpAnyH_take (i := 10) (v := ?vv10) rfl (by kernel_rfl) (by kernel_rfl) (by kernel_rfl) (fun _ _ _ h => h) (Or.inl ⟨by rfl, ?hy10⟩) hHeld ?rr10
      case hy10 => (intro w' hSw; obtain ⟨g1, g2⟩ := hSw; go_simp; try with_reducible rfl)
      try simp only [Act.put, List.setIfInBounds_toArray, List.set_cons_zero, List.set_cons_succ, List.getElem_toArray, List.getElem_cons_succ, List.getElem_cons_zero]
      refine wpAnyH_ready (rs := [6]) (by kernel_rfl) (by simp) ?_
      refine AllReadyH.cons rfl (fun K hK => ?_) AllReadyH.nil
      try rw [if_pos (by rfl)]
      go_simp
      go_at_call 24
      refine Calls.mono (by with_reducible exact HCl.out) ?_
      rintro en w5 ⟨A5, c5, rfl, _, hb5, _, _, _, hw5⟩
      have HB5 := Lib.hid hb5
      have HW5 := Lib.hid hw5
      have HS5 : Hid ((fun w' => w'.cell? ⟨e.a, 0, none⟩ = some (.slice e.A e.f.bytes.length e.c) ∧ w'.cell? ⟨e.a, 1, none⟩ = some (.int .i64 (e.f.sure : Int))) w5) := Lib.hid ⟨cell_later hb5 HS0.out.1, cell_later hb5 HS0.out.2⟩
      clear hb5 hw5
      go_wp2_with fail
      refine hK.out _ _ HS5.out (fun hHeld2 => ?_)
      clear hK K hHeld
      have hHeld := hHeld2
      clear hHeld2
      try simp only [Act.put, List.setIfInBounds_toArray, List.set_cons_zero, List.set_cons_succ, List.getElem_toArray, List.getElem_cons_succ, List.getElem_cons_zero]
      refine wpAnyH_take (i := 11) (v := ?vv11) rfl (by kernel_rfl) (by kernel_rfl) (by kernel_rfl) (fun _ _ _ h => h) (Or.inl ⟨by rfl, ?hy11⟩) hHeld ?rr11
      case hy11 => (intro w' hSw; obtain ⟨g1, g2⟩ := hSw; go_simp; try with_reducible rfl)
      try simp only [Act.put, List.setIfInBounds_toArray, List.set_cons_zero, List.set_cons_succ, List.getElem_toArray, List.getElem_cons_succ, List.getElem_cons_zero]
      refine wpAnyH_ready (rs := [12]) (by kernel_rfl) (by simp) ?_
      refine AllReadyH.cons rfl (fun K hK => ?_) AllReadyH.nil
      try rw [if_pos (by rfl)]
      go_simp
      have hb6 := below_alloc w5 (.cells #[.string s, .slice A5 e.f.bytes.length c5, .int .i64 (e.f.sure : Int)] 47)
      have HS6 : Hid ((fun w' => w'.cell? ⟨e.a, 0, none⟩ = some (.slice e.A e.f.bytes.length e.c) ∧ w'.cell? ⟨e.a, 1, none⟩ = some (.int .i64 (e.f.sure : Int))) (w5.alloc (.cells #[.string s, .slice A5 e.f.bytes.length c5, .int .i64 (e.f.sure : Int)] 47))) := Lib.hid ⟨cell_later hb6 HS5.out.1, cell_later hb6 HS5.out.2⟩
      have HB6 := Lib.hid hb6
      clear hb6
      refine hK.out _ _ HS6.out (fun hHeld2 => ?_)
      clear hK K hHeld
      have hHeld := hHeld2
      clear hHeld2
      try simp only [Act.put, List.setIfInBounds_toArray, List.set_cons_zero, List.set_cons_succ, List.getElem_toArray, List.getElem_cons_succ, List.getElem_cons_zero]
      refine wpAnyH_ready (rs := [13]) (by kernel_rfl) (by simp) ?_
      refine AllReadyH.cons rfl (fun K hK => ?_) AllReadyH.nil
      try rw [if_pos (by rfl)]
      have HB06 := Lib.hid (((Below.refl wr.heap.size wr).drew.trans HB5.out).trans (HB6.out.mono ((Below.refl wr.heap.size wr).drew.trans HB5.out).size))
      have HO6 := Lib.hid (own_later HOw.out HB06.out)
      have HR6 := Lib.hid (own_later HRr.out HB06.out)
      have HX6 := Lib.hid (HXr.out.later HB06.out)
      have HL6 := Lib.hid (Lsd.add (f := e.f) (HLs.out.later HB06.out) (own_later (own_wide HW5.out HB.out.size) HB6.out))
      rw [← HS4.out] at HL6
      refine oper_append_k _ (.tmp 22) (.tmp 34) 43 rfl 47 i0 (.agg #[.string ⟨#[]⟩, .slice none 0 0, .int .i64 0]) 3 48 Try.underlying43 hinfo hz0 hz1 hz2 rfl (by decide) w.heap.size _ k vs rfl HO6.out (some ⟨w5.heap.size, 0, none⟩) 1 1 [.string s, .slice A5 e.f.bytes.length c5, .int .i64 (e.f.sure : Int)] rfl rfl (fun _ => ⟨_, rfl, cells_add (heap_new w5 (.cells #[.string s, .slice A5 e.f.bytes.length c5, .int .i64 (e.f.sure : Int)] 47))⟩) (fun u hu => by simp at hu; rcases hu with rfl | rfl | rfl <;> rfl) (by unfold maxLen; omega) (by omega) (by have := HB.out.size; have := HB06.out.size; omega) ?_
      intro A7 c7 w7 hown7 hgrow7 _
      have HO7 := Lib.hid hown7
      have HL7 := Lib.hid (HL6.out.grown HO6.out (by decide) hgrow7)
      have HR7 := Lib.hid (HR6.out.kept hgrow7 (own_apart3 HR6.out HO6.out (by decide)))
      have HB7 := Lib.hid ((HB.out.trans (HB06.out.mono HB.out.size)).grown hgrow7 (by have := HB.out.size; have := HB06.out.size; omega) (fun k e => (HO6.out.lt k e).1))
      have HS7 : Hid ((fun w' => w'.cell? ⟨e.a, 0, none⟩ = some (.slice e.A e.f.bytes.length e.c) ∧ w'.cell? ⟨e.a, 1, none⟩ = some (.int .i64 (e.f.sure : Int))) w7) := Lib.hid (by
        have hm := Moved.grown (p := fun k' => (Value.slice PA k pc).ownBlock = some k') (Moved.refl _ (w5.alloc (.cells #[.string s, .slice A5 e.f.bytes.length c5, .int .i64 (e.f.sure : Int)] 47))) hgrow7 (fun k' _ e => e)
        have hf := hm.heap (HX6.out.file e HHe.out) (own_ne HO6.out (HX6.out.file e HHe.out) (by decide))
        exact ⟨cell_of_row _ _ 0 _ _ _ hf, cell_of_row _ _ 1 _ _ _ hf⟩)
      clear hown7 hgrow7
      refine hK.out _ _ HS7.out (fun hHeld2 => ?_)
      clear hK K hHeld
      have hHeld := hHeld2
      clear hHeld2
      try simp only [Act.put, List.setIfInBounds_toArray, List.set_cons_zero, List.set_cons_succ, List.getElem_toArray, List.getElem_cons_succ, List.getElem_cons_zero]
      refine wpAnyH_take (i := 14) (v := ?vvz) rfl (by kernel_rfl) (by kernel_rfl) (by kernel_rfl) (fun _ _ _ h => h) (Or.inl ⟨by rfl, ?hyz⟩) hHeld ?rrz
      case hyz => (intro w' hSw; go_simp; try with_reducible rfl)
      try simp only [Act.put, List.setIfInBounds_toArray, List.set_cons_zero, List.set_cons_succ, List.getElem_toArray, List.getElem_cons_succ, List.getElem_cons_zero]
      refine wpAnyH_done (by kernel_rfl) ?_ _
      clear hHeld hrun c8
      go_wp2
      go_roundw
      case rel =>
        refine ⟨k + 1, A7, c7, vs ++ [.string s, .slice A5 e.f.bytes.length c5, .int .i64 (e.f.sure : Int)], by omega, by go_num, rfl, HO7, Lib.hid ?_, HR7, HB7⟩
        rw [HTk.out, List.map_append]
        exact HL7.out
      case measure => simp [intOf]; omega
    · obtain rfl : k = N := by omega
      go_wp2
      go_ret
      have e1 : es.take k = es := List.take_of_length_le (by have := HNN.out; omega)
      have hL := HLs.out
      have hO := HOw.out
      rw [e1] at hL
      have e2 : (es.map (·.f)).length = k := by rw [List.length_map]; exact HNN.out.symm
      refine ⟨PA, pc, vs, by rw [e2]; rfl, by rw [e2]; exact hO, hL, HB.out⟩
end Go.Proofs.Ytobgiialecgpnaa
