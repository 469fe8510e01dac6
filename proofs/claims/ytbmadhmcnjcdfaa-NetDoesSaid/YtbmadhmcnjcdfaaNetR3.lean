/- The reference's net: Part. -/
import Derived.Test.YtbmadhmcnjcdfaaNetR1
set_option linter.unusedSimpArgs false
set_option linter.unusedVariables false
namespace Go.Proofs.Ytbmadhmcnjcdfaa
open Go.ChangeShapes Go.WideShapes Go.ChangeAt Go.RowKit Go.Base Go.Net

section
variable {T : TypeId} {F G : Nat → Prop} {w w1 w' : World} {p : Nat} {s : St} {A : Option Addr} {c n : Nat} {vs : List PkV} {x : PkV}
set_option maxHeartbeats 16000000 in
set_option maxRecDepth 20000 in
theorem rpart_any (h : NetX T w F p s A c vs) (a b : Int) (hk2 : s.lost + 4096 ≤ 9223372036854775807) :
    Calls Try.prog 20 #[.pointer (some ⟨p, 0, none⟩), .int .i64 a, .int .i64 b] w (OpN T F p (partS s a b).2 (.tuple #[.int .i64 (partS s a b).1.1, .int .i64 (partS s a b).1.2]) w) := by
  have HX := Lib.hid h
  by_cases hP1 : isP s a
  · have HI1 := Lib.hid (ris_yes h hP1)
    by_cases hP2 : isP s b
    · have HI2 := Lib.hid (ris_yes h hP2)
      have HE : Hid (partS s a b = (((s.l.length : Int) - ((left s.l a b).length : Int), 0), { s with l := left s.l a b, lost := s.lost + ((s.l.length : Int) - ((left s.l a b).length : Int)) })) := Lib.hid (by unfold partS; rw [if_neg (fun h => h ⟨hP1, hP2⟩)])
      have g1 := h.good.lost0
      have hfew := h.few
      have hlen := h.len
      have hp : p < w.heap.size := h.lt
      obtain ⟨n, hn⟩ : ∃ n, n = vs.length := ⟨_, rfl⟩
      have HN := Lib.hid hn
      rw [← hn] at hfew hlen
      have HL := Lib.hid hlen
      have hcell := fun V (hV : Below w.heap.size w V) => (h.later hV).cells
      have hfree := fun V (hV : Below w.heap.size w V) => (h.later hV).free
      rw [← hn] at hcell
      have HCl := Lib.hid hcell
      have HFr := Lib.hid hfree
      have HFin : Hid (∀ (V : World) (A1 : Option Addr) (m d1 : Nat), Below w.heap.size w V → m = (leftV vs a b).length → V.ownsRow w.heap.size 37 4 (.slice A1 m d1) m (cellsP (leftV vs a b)) →
          NT T (fun k => F k ∨ w.heap.size ≤ k) ((V.setCell ⟨p, 1, none⟩ (.slice A1 m d1)).setCell ⟨p, 3, none⟩ (.int .i64 (s.lost + ((n : Int) - (m : Int))))) p (partS s a b).2 ∧ Moved F w ((V.setCell ⟨p, 1, none⟩ (.slice A1 m d1)).setCell ⟨p, 3, none⟩ (.int .i64 (s.lost + ((n : Int) - (m : Int))))) ∧ (partS s a b).1 = ((n : Int) - (m : Int), 0)) := Lib.hid (fun V A1 m d1 hV hm hr => by
        have hXr := h.later hV
        have hg := good_part h.good a b
        have hml : m = (left s.l a b).length := by rw [hm, ← h.is, ← leftV_map, List.length_map]
        have hE := HE.out
        rw [← hlen, ← hml] at hE
        have hp1 := heap_set hXr.self 1 (.slice A1 m d1)
        rw [hE] at hg ⊢
        refine ⟨⟨A1, d1, leftV vs a b, ⟨hg, ?_, ?_, ?_, ⟨.inl h.inF.1, fun j hj => .inr ?_⟩, fun x hx => ?_, h.ty⟩⟩, ((Below.movedNew hV).setCell (.inr h.inF.1) _).setCell (.inr h.inF.1) _, rfl⟩
        · show (leftV vs a b).map (·.p) = left s.l a b
          rw [leftV_map, h.is]
        · rw [← hm, heap_set hp1 3 _]; rfl
        · rw [← hm]; exact own_setSelf (own_setSelf (own_zero hr) hXr.self hXr.ty.1 _) hp1 hXr.ty.1 _
        · rw [← hm] at hj; exact (hr.lt j hj).1
        · exact (((hXr.bod x (List.filter_sublist.subset hx)).wide (fun k hk => .inl hk)).setSelf hXr.self hXr.ty.2 _).setSelf hp1 hXr.ty.2 _)
      obtain ⟨i0, hinfo, hz0, hz1, hz2⟩ := info_parts (P := Try.prog) (e := 37) (z := zPk) (size := 4) (bytes := 48) (by kernel_rfl)
      clear h hP1 hP2 hn hlen hcell hfree
      go_enter Try.func20, Try.ntmps20
      go_wp2_with (first
        | (go_at_call 29; refine Calls.mono (by with_reducible exact HI1.out) ?_; rintro e w1 ⟨rfl, rfl⟩)
        | (go_at_call 29; refine Calls.mono (by with_reducible exact HI2.out) ?_; rintro e w1 ⟨rfl, rfl⟩))
      go_loopw [8, 9] (fun sv iv wr => ∃ (k m : Nat) (A1 : Option Addr) (d1 : Nat), k ≤ n ∧ iv = .int .i64 (k : Int) ∧ sv = .slice A1 m d1 ∧ Hid (m = (leftV (vs.take k) a b).length) ∧ Hid (wr.ownsRow w.heap.size 37 4 (.slice A1 m d1) m (cellsP (leftV (vs.take k) a b))) ∧ Hid (Below w.heap.size w wr)) (fun _ iv _ => n - (intOf iv).toNat)
      case atStart => exact ⟨0, 0, none, 0, Nat.zero_le _, rfl, rfl, Lib.hid rfl, Lib.hid (World.ownsRow_nil _ _ _ _), Lib.hid (Below.refl _ _)⟩
      case round =>
        obtain ⟨k, m, A1, d1, hkn, rfl, rfl, HM, HO, HB⟩ := hrel
        obtain ⟨c0, c1, c2, c3⟩ := HCl.out wr HB.out
        have f1 := HFr.out wr HB.out 1
        have f3 := HFr.out wr HB.out 3
        have hmk : m ≤ k := by
          have h1 := HM.out
          have h2 : (leftV (vs.take k) a b).length ≤ (vs.take k).length := List.length_filter_le _ _
          rw [List.length_take] at h2; omega
        by_cases hlt : k < n
        · have hlt' : (k : Int) < (n : Int) := by omega
          have hkz : (0 : Int) ≤ (k : Int) := by omega
          have hku : k < vs.length := by rw [← HN.out]; exact hlt
          obtain ⟨g, rfl, r0, r1, r2, r3⟩ := rowP_at ((HX.out.later HB.out).row) hku
          have hgw : g < wr.heap.size := World.block_lt_of_cell? wr _ r0
          have HTk : Hid (vs.take (k + 1) = vs.take k ++ [vs[k]]) := Lib.hid (List.take_succ_eq_append_getElem hku)
          obtain ⟨z, hz⟩ : ∃ z, z = vs[k] := ⟨_, rfl⟩
          rw [← hz] at r0 r1 r2 r3 HTk
          simp only [PkV.val] at r3
          have HT2 : Hid (leftV (vs.take (k + 1)) a b = if btw a b z.p = true then leftV (vs.take k) a b else leftV (vs.take k) a b ++ [z]) := Lib.hid (by rw [HTk.out, leftV_snoc])
          clear hz hku c0 c2 c3 f1 f3
          by_cases e1 : z.p.fr = a
          · have h1 : (z.p.fr == a) = true := by simpa using e1
            clear e1
            by_cases e2 : z.p.dst = b
            · have h2 : (z.p.dst == b) = true := by simpa using e2
              clear e2
              have HT3 : Hid (leftV (vs.take (k + 1)) a b = leftV (vs.take k) a b) := Lib.hid (by rw [HT2.out, if_pos (by simp [btw, h1, h2])])
              go_wp2
              go_roundw
              case rel => exact ⟨k + 1, m, A1, d1, by omega, by go_num, rfl, Lib.hid (by rw [HT3.out]; exact HM.out), Lib.hid (by rw [HT3.out]; exact own_moved (p := fun _ => False) HO.out (Below.movedNew (below_alloc _ _)) (fun _ _ h => h)), Lib.hid (HB.out.alloc HB.out.size _)⟩
              case measure => simp [intOf]; omega
            · have h2 : (z.p.dst == b) = false := by simpa using e2
              clear e2
              by_cases e3 : z.p.fr = b
              · have h3 : (z.p.fr == b) = true := by simpa using e3
                clear e3
                by_cases e4 : z.p.dst = a
                · have h4 : (z.p.dst == a) = true := by simpa using e4
                  clear e4
                  have HT3 : Hid (leftV (vs.take (k + 1)) a b = leftV (vs.take k) a b) := Lib.hid (by rw [HT2.out, if_pos (by simp [btw, h1, h2, h3, h4])])
                  go_wp2
                  go_roundw
                  case rel => exact ⟨k + 1, m, A1, d1, by omega, by go_num, rfl, Lib.hid (by rw [HT3.out]; exact HM.out), Lib.hid (by rw [HT3.out]; exact own_moved (p := fun _ => False) HO.out (Below.movedNew (below_alloc _ _)) (fun _ _ h => h)), Lib.hid (HB.out.alloc HB.out.size _)⟩
                  case measure => simp [intOf]; omega
                · have h4 : (z.p.dst == a) = false := by simpa using e4
                  clear e4
                  have HT3 : Hid (leftV (vs.take (k + 1)) a b = leftV (vs.take k) a b ++ [z]) := Lib.hid (by rw [HT2.out, if_neg (by simp [btw, h1, h2, h3, h4])])
                  have HB2 := Lib.hid ((HB.out.alloc HB.out.size (.cells #[.int .i64 z.p.id, .int .i64 z.p.fr, .int .i64 z.p.dst, .slice z.A z.p.body.length z.c] 37)).alloc (by have := HB.out.size; simp; omega) (.cells #[.int .i64 z.p.id, .int .i64 z.p.fr, .int .i64 z.p.dst, .slice z.A z.p.body.length z.c] 37))
                  have HO2 := Lib.hid (own_moved (p := fun _ => False) HO.out (Below.movedNew ((below_alloc wr (.cells #[.int .i64 z.p.id, .int .i64 z.p.fr, .int .i64 z.p.dst, .slice z.A z.p.body.length z.c] 37)).alloc (by simp) (.cells #[.int .i64 z.p.id, .int .i64 z.p.fr, .int .i64 z.p.dst, .slice z.A z.p.body.length z.c] 37))) (fun _ _ h => h))
                  have HCe : Hid (∀ (j : Nat) (u : Value), [Value.int .i64 z.p.id, .int .i64 z.p.fr, .int .i64 z.p.dst, .slice z.A z.p.body.length z.c][j]? = some u → ((wr.alloc (.cells #[.int .i64 z.p.id, .int .i64 z.p.fr, .int .i64 z.p.dst, .slice z.A z.p.body.length z.c] 37)).alloc (.cells #[.int .i64 z.p.id, .int .i64 z.p.fr, .int .i64 z.p.dst, .slice z.A z.p.body.length z.c] 37)).cell? ((⟨wr.heap.size + 1, 0, none⟩ : Addr).add j) = some u) := Lib.hid (fun j u hu => by
                    have h1 := heap_new (wr.alloc (.cells #[.int .i64 z.p.id, .int .i64 z.p.fr, .int .i64 z.p.dst, .slice z.A z.p.body.length z.c] 37)) (.cells #[.int .i64 z.p.id, .int .i64 z.p.fr, .int .i64 z.p.dst, .slice z.A z.p.body.length z.c] 37)
                    rw [World.size_alloc] at h1
                    exact cells_of_block h1 j u hu)
                  go_wp2_with (at_builtin; refine wpList_append_k _ (by rfl) (.tmp 60) (.tmp 62) 48 (by rfl) 37 i0 zPk 4 48 Try.underlying48 hinfo hz0 hz1 hz2 rfl (by decide) w.heap.size (.slice A1 m d1) m _ (by rfl) HO2.out (some ⟨wr.heap.size + 1, 0, none⟩) 1 1 [.int .i64 z.p.id, .int .i64 z.p.fr, .int .i64 z.p.dst, .slice z.A z.p.body.length z.c] (by rfl) (by rfl) (fun _ => ⟨_, rfl, HCe.out⟩) (fun u hu => by simp at hu; rcases hu with rfl | rfl | rfl | rfl <;> rfl) (by unfold maxLen; omega) (by omega) HB2.out.size ?_; intro A3 d3 w3 hown hgrow _; have HO3 := Lib.hid hown; have HB3 := Lib.hid (HB2.out.grown hgrow HB2.out.size (fun k e => (HO2.out.lt k e).1)); clear hown hgrow)
                  refine ⟨⟨k + 1, m + 1, A3, d3, by omega, by first | rfl | go_num, by first | rfl | go_num, Lib.hid ?_, Lib.hid ?_, HB3⟩, ?_⟩
                  · rw [HT3.out, List.length_append, ← HM.out]; rfl
                  · rw [HT3.out, cellsP_append]; exact HO3.out
                  · simp [intOf]; omega
              · have h3 : (z.p.fr == b) = false := by simpa using e3
                clear e3
                have HT3 : Hid (leftV (vs.take (k + 1)) a b = leftV (vs.take k) a b ++ [z]) := Lib.hid (by rw [HT2.out, if_neg (by simp [btw, h1, h2, h3])])
                have HB2 := Lib.hid ((HB.out.alloc HB.out.size (.cells #[.int .i64 z.p.id, .int .i64 z.p.fr, .int .i64 z.p.dst, .slice z.A z.p.body.length z.c] 37)).alloc (by have := HB.out.size; simp; omega) (.cells #[.int .i64 z.p.id, .int .i64 z.p.fr, .int .i64 z.p.dst, .slice z.A z.p.body.length z.c] 37))
                have HO2 := Lib.hid (own_moved (p := fun _ => False) HO.out (Below.movedNew ((below_alloc wr (.cells #[.int .i64 z.p.id, .int .i64 z.p.fr, .int .i64 z.p.dst, .slice z.A z.p.body.length z.c] 37)).alloc (by simp) (.cells #[.int .i64 z.p.id, .int .i64 z.p.fr, .int .i64 z.p.dst, .slice z.A z.p.body.length z.c] 37))) (fun _ _ h => h))
                have HCe : Hid (∀ (j : Nat) (u : Value), [Value.int .i64 z.p.id, .int .i64 z.p.fr, .int .i64 z.p.dst, .slice z.A z.p.body.length z.c][j]? = some u → ((wr.alloc (.cells #[.int .i64 z.p.id, .int .i64 z.p.fr, .int .i64 z.p.dst, .slice z.A z.p.body.length z.c] 37)).alloc (.cells #[.int .i64 z.p.id, .int .i64 z.p.fr, .int .i64 z.p.dst, .slice z.A z.p.body.length z.c] 37)).cell? ((⟨wr.heap.size + 1, 0, none⟩ : Addr).add j) = some u) := Lib.hid (fun j u hu => by
                  have h1 := heap_new (wr.alloc (.cells #[.int .i64 z.p.id, .int .i64 z.p.fr, .int .i64 z.p.dst, .slice z.A z.p.body.length z.c] 37)) (.cells #[.int .i64 z.p.id, .int .i64 z.p.fr, .int .i64 z.p.dst, .slice z.A z.p.body.length z.c] 37)
                  rw [World.size_alloc] at h1
                  exact cells_of_block h1 j u hu)
                go_wp2_with (at_builtin; refine wpList_append_k _ (by rfl) (.tmp 60) (.tmp 62) 48 (by rfl) 37 i0 zPk 4 48 Try.underlying48 hinfo hz0 hz1 hz2 rfl (by decide) w.heap.size (.slice A1 m d1) m _ (by rfl) HO2.out (some ⟨wr.heap.size + 1, 0, none⟩) 1 1 [.int .i64 z.p.id, .int .i64 z.p.fr, .int .i64 z.p.dst, .slice z.A z.p.body.length z.c] (by rfl) (by rfl) (fun _ => ⟨_, rfl, HCe.out⟩) (fun u hu => by simp at hu; rcases hu with rfl | rfl | rfl | rfl <;> rfl) (by unfold maxLen; omega) (by omega) HB2.out.size ?_; intro A3 d3 w3 hown hgrow _; have HO3 := Lib.hid hown; have HB3 := Lib.hid (HB2.out.grown hgrow HB2.out.size (fun k e => (HO2.out.lt k e).1)); clear hown hgrow)
                refine ⟨⟨k + 1, m + 1, A3, d3, by omega, by first | rfl | go_num, by first | rfl | go_num, Lib.hid ?_, Lib.hid ?_, HB3⟩, ?_⟩
                · rw [HT3.out, List.length_append, ← HM.out]; rfl
                · rw [HT3.out, cellsP_append]; exact HO3.out
                · simp [intOf]; omega
          · have h1 : (z.p.fr == a) = false := by simpa using e1
            clear e1
            by_cases e3 : z.p.fr = b
            · have h3 : (z.p.fr == b) = true := by simpa using e3
              clear e3
              by_cases e4 : z.p.dst = a
              · have h4 : (z.p.dst == a) = true := by simpa using e4
                clear e4
                have HT3 : Hid (leftV (vs.take (k + 1)) a b = leftV (vs.take k) a b) := Lib.hid (by rw [HT2.out, if_pos (by simp [btw, h1, h3, h4])])
                go_wp2
                go_roundw
                case rel => exact ⟨k + 1, m, A1, d1, by omega, by go_num, rfl, Lib.hid (by rw [HT3.out]; exact HM.out), Lib.hid (by rw [HT3.out]; exact own_moved (p := fun _ => False) HO.out (Below.movedNew (below_alloc _ _)) (fun _ _ h => h)), Lib.hid (HB.out.alloc HB.out.size _)⟩
                case measure => simp [intOf]; omega
              · have h4 : (z.p.dst == a) = false := by simpa using e4
                clear e4
                have HT3 : Hid (leftV (vs.take (k + 1)) a b = leftV (vs.take k) a b ++ [z]) := Lib.hid (by rw [HT2.out, if_neg (by simp [btw, h1, h3, h4])])
                have HB2 := Lib.hid ((HB.out.alloc HB.out.size (.cells #[.int .i64 z.p.id, .int .i64 z.p.fr, .int .i64 z.p.dst, .slice z.A z.p.body.length z.c] 37)).alloc (by have := HB.out.size; simp; omega) (.cells #[.int .i64 z.p.id, .int .i64 z.p.fr, .int .i64 z.p.dst, .slice z.A z.p.body.length z.c] 37))
                have HO2 := Lib.hid (own_moved (p := fun _ => False) HO.out (Below.movedNew ((below_alloc wr (.cells #[.int .i64 z.p.id, .int .i64 z.p.fr, .int .i64 z.p.dst, .slice z.A z.p.body.length z.c] 37)).alloc (by simp) (.cells #[.int .i64 z.p.id, .int .i64 z.p.fr, .int .i64 z.p.dst, .slice z.A z.p.body.length z.c] 37))) (fun _ _ h => h))
                have HCe : Hid (∀ (j : Nat) (u : Value), [Value.int .i64 z.p.id, .int .i64 z.p.fr, .int .i64 z.p.dst, .slice z.A z.p.body.length z.c][j]? = some u → ((wr.alloc (.cells #[.int .i64 z.p.id, .int .i64 z.p.fr, .int .i64 z.p.dst, .slice z.A z.p.body.length z.c] 37)).alloc (.cells #[.int .i64 z.p.id, .int .i64 z.p.fr, .int .i64 z.p.dst, .slice z.A z.p.body.length z.c] 37)).cell? ((⟨wr.heap.size + 1, 0, none⟩ : Addr).add j) = some u) := Lib.hid (fun j u hu => by
                  have h1 := heap_new (wr.alloc (.cells #[.int .i64 z.p.id, .int .i64 z.p.fr, .int .i64 z.p.dst, .slice z.A z.p.body.length z.c] 37)) (.cells #[.int .i64 z.p.id, .int .i64 z.p.fr, .int .i64 z.p.dst, .slice z.A z.p.body.length z.c] 37)
                  rw [World.size_alloc] at h1
                  exact cells_of_block h1 j u hu)
                go_wp2_with (at_builtin; refine wpList_append_k _ (by rfl) (.tmp 60) (.tmp 62) 48 (by rfl) 37 i0 zPk 4 48 Try.underlying48 hinfo hz0 hz1 hz2 rfl (by decide) w.heap.size (.slice A1 m d1) m _ (by rfl) HO2.out (some ⟨wr.heap.size + 1, 0, none⟩) 1 1 [.int .i64 z.p.id, .int .i64 z.p.fr, .int .i64 z.p.dst, .slice z.A z.p.body.length z.c] (by rfl) (by rfl) (fun _ => ⟨_, rfl, HCe.out⟩) (fun u hu => by simp at hu; rcases hu with rfl | rfl | rfl | rfl <;> rfl) (by unfold maxLen; omega) (by omega) HB2.out.size ?_; intro A3 d3 w3 hown hgrow _; have HO3 := Lib.hid hown; have HB3 := Lib.hid (HB2.out.grown hgrow HB2.out.size (fun k e => (HO2.out.lt k e).1)); clear hown hgrow)
                refine ⟨⟨k + 1, m + 1, A3, d3, by omega, by first | rfl | go_num, by first | rfl | go_num, Lib.hid ?_, Lib.hid ?_, HB3⟩, ?_⟩
                · rw [HT3.out, List.length_append, ← HM.out]; rfl
                · rw [HT3.out, cellsP_append]; exact HO3.out
                · simp [intOf]; omega
            · have h3 : (z.p.fr == b) = false := by simpa using e3
              clear e3
              have HT3 : Hid (leftV (vs.take (k + 1)) a b = leftV (vs.take k) a b ++ [z]) := Lib.hid (by rw [HT2.out, if_neg (by simp [btw, h1, h3])])
              have HB2 := Lib.hid ((HB.out.alloc HB.out.size (.cells #[.int .i64 z.p.id, .int .i64 z.p.fr, .int .i64 z.p.dst, .slice z.A z.p.body.length z.c] 37)).alloc (by have := HB.out.size; simp; omega) (.cells #[.int .i64 z.p.id, .int .i64 z.p.fr, .int .i64 z.p.dst, .slice z.A z.p.body.length z.c] 37))
              have HO2 := Lib.hid (own_moved (p := fun _ => False) HO.out (Below.movedNew ((below_alloc wr (.cells #[.int .i64 z.p.id, .int .i64 z.p.fr, .int .i64 z.p.dst, .slice z.A z.p.body.length z.c] 37)).alloc (by simp) (.cells #[.int .i64 z.p.id, .int .i64 z.p.fr, .int .i64 z.p.dst, .slice z.A z.p.body.length z.c] 37))) (fun _ _ h => h))
              have HCe : Hid (∀ (j : Nat) (u : Value), [Value.int .i64 z.p.id, .int .i64 z.p.fr, .int .i64 z.p.dst, .slice z.A z.p.body.length z.c][j]? = some u → ((wr.alloc (.cells #[.int .i64 z.p.id, .int .i64 z.p.fr, .int .i64 z.p.dst, .slice z.A z.p.body.length z.c] 37)).alloc (.cells #[.int .i64 z.p.id, .int .i64 z.p.fr, .int .i64 z.p.dst, .slice z.A z.p.body.length z.c] 37)).cell? ((⟨wr.heap.size + 1, 0, none⟩ : Addr).add j) = some u) := Lib.hid (fun j u hu => by
                have h1 := heap_new (wr.alloc (.cells #[.int .i64 z.p.id, .int .i64 z.p.fr, .int .i64 z.p.dst, .slice z.A z.p.body.length z.c] 37)) (.cells #[.int .i64 z.p.id, .int .i64 z.p.fr, .int .i64 z.p.dst, .slice z.A z.p.body.length z.c] 37)
                rw [World.size_alloc] at h1
                exact cells_of_block h1 j u hu)
              go_wp2_with (at_builtin; refine wpList_append_k _ (by rfl) (.tmp 60) (.tmp 62) 48 (by rfl) 37 i0 zPk 4 48 Try.underlying48 hinfo hz0 hz1 hz2 rfl (by decide) w.heap.size (.slice A1 m d1) m _ (by rfl) HO2.out (some ⟨wr.heap.size + 1, 0, none⟩) 1 1 [.int .i64 z.p.id, .int .i64 z.p.fr, .int .i64 z.p.dst, .slice z.A z.p.body.length z.c] (by rfl) (by rfl) (fun _ => ⟨_, rfl, HCe.out⟩) (fun u hu => by simp at hu; rcases hu with rfl | rfl | rfl | rfl <;> rfl) (by unfold maxLen; omega) (by omega) HB2.out.size ?_; intro A3 d3 w3 hown hgrow _; have HO3 := Lib.hid hown; have HB3 := Lib.hid (HB2.out.grown hgrow HB2.out.size (fun k e => (HO2.out.lt k e).1)); clear hown hgrow)
              refine ⟨⟨k + 1, m + 1, A3, d3, by omega, by first | rfl | go_num, by first | rfl | go_num, Lib.hid ?_, Lib.hid ?_, HB3⟩, ?_⟩
              · rw [HT3.out, List.length_append, ← HM.out]; rfl
              · rw [HT3.out, cellsP_append]; exact HO3.out
              · simp [intOf]; omega
        · have hlt' : ¬ (k : Int) < (n : Int) := by omega
          obtain rfl : k = n := by omega
          have hall : vs.take k = vs := List.take_of_length_le (by rw [← HN.out]; exact Nat.le_refl _)
          rw [hall] at HM HO
          have HF := Lib.hid (HFin.out wr A1 m d1 HB.out HM.out HO.out)
          have hmz : (m : Int) ≤ (k : Int) := by omega
          go_wp2
          go_ret2
          rw [HF.out.2.2]
          exact ⟨rfl, HF.out.1, HF.out.2.1⟩
    · have HI2 := Lib.hid (ris_no h hP2)
      have HE : Hid (partS s a b = ((0, 1), s)) := Lib.hid (by unfold partS; rw [if_pos (fun h => hP2 h.2)])
      clear h hP1 hP2 hk2
      go_enter Try.func20, Try.ntmps20
      go_wp2_with (first
        | (go_at_call 29; refine Calls.mono (by with_reducible exact HI1.out) ?_; rintro e w1 ⟨rfl, rfl⟩)
        | (go_at_call 29; refine Calls.mono (by with_reducible exact HI2.out) ?_; rintro e w1 ⟨rfl, rfl⟩))
      go_ret2
      rw [HE.out]
      exact ⟨rfl, HX.out.same, Moved.refl _ _⟩
  · have HI1 := Lib.hid (ris_no h hP1)
    have HE : Hid (partS s a b = ((0, 1), s)) := Lib.hid (by unfold partS; rw [if_pos (fun h => hP1 h.1)])
    clear h hP1 hk2
    go_enter Try.func20, Try.ntmps20
    go_wp2_with (go_at_call 29; refine Calls.mono (by with_reducible exact HI1.out) ?_; rintro e w1 ⟨rfl, rfl⟩)
    go_ret2
    rw [HE.out]
    exact ⟨rfl, HX.out.same, Moved.refl _ _⟩
end
end Go.Proofs.Ytbmadhmcnjcdfaa
