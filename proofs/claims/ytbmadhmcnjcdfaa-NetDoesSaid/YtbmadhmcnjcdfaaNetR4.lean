/- The law NetDoes' 'looks'. -/
import Derived.Test.YtbmadhmcnjcdfaaNetR1
import Derived.Test.YtbmadhmcnjcdfaaNetL
set_option linter.unusedSimpArgs false
set_option linter.unusedVariables false
namespace Go.Proofs.Ytbmadhmcnjcdfaa
open Go.ChangeShapes Go.WideShapes Go.ChangeAt Go.RowKit Go.Base Go.Net

theorem sameB_self (p : Pk) : sameB p p = true := by simp [sameB]
theorem at_taken {P : World → Prop} {w V V' : World} (h : P V') : P V' := h
set_option maxHeartbeats 16000000 in
set_option maxRecDepth 20000 in
theorem looks_any {T T' : TypeId} {F F' : Nat → Prop} {w : World} {q x : Nat} {s : St} {A A' : Option Addr} {c c' : Nat} {vs ys : List PkV} (hn : NetX T w F q s A c vs) (hx : NetX T' w F' x s A' c' ys) (a : Int) :
    Calls Try.prog 21 #[.pointer (some ⟨q, 0, none⟩), .pointer (some ⟨x, 0, none⟩), .int .i64 a] w fun e w' => e = .returned (.bool true) ∧ Below w.heap.size w w' := by
  obtain ⟨n, hl⟩ : ∃ n, n = s.l.length := ⟨_, rfl⟩
  obtain ⟨m, hm⟩ : ∃ m, m = (toS s.l a).length := ⟨_, rfl⟩
  have hfew := hn.good.few
  have hmn := toS_len s.l a
  rw [← hl] at hfew hmn
  rw [← hm] at hmn
  have HLs := Lib.hid hl
  have HMs := Lib.hid hm
  have hyl : ys.length = n := by rw [hx.len, hl]
  have HYl := Lib.hid hyl
  have HN := Lib.hid (fun V (hV : Below w.heap.size w V) => hn.later hV)
  have HR := Lib.hid (fun V (hV : Below w.heap.size w V) => hx.later hV)
  have hg := hn.good.lost0
  clear hn hx hl hm hyl
  go_enter Try.func21, Try.ntmps21
  go_wp2_with (first
    | (go_at_call 24; refine Calls.mono (list_any (HN.out w (Below.refl _ _))) ?_; rintro e w1 h1; obtain ⟨A1, d1, us, rfl, hul, hum, ho1, hby, hb1⟩ := ListPost.len h1 HLs.out.symm; have HUl := Lib.hid hul; have HUm := Lib.hid hum; have HO1 := Lib.hid ho1; have HBy := Lib.hid hby; have HB1 := Lib.hid hb1; clear h1 hul hum ho1 hby hb1)
    | (go_at_call 25; refine Calls.mono (to_any (HN.out w1 HB1.out) a) ?_; rintro e w2 h2; obtain ⟨A2, d2, rfl, ho2, hb2⟩ := ToPost.len h2 HMs.out.symm; have HO2 := Lib.hid ho2; have HB12 := Lib.hid hb2; have HB2 := Lib.hid (HB1.out.trans (hb2.mono HB1.out.size)); clear h2 ho2 hb2)
    | (go_at_call 36; refine Calls.mono (rto_any (HR.out w2 HB2.out) a) ?_; rintro e w3 h3; obtain ⟨A3, d3, rfl, ho3, hb3⟩ := ToPost.len h3 HMs.out.symm; have HO3 := Lib.hid ho3; have HB23 := Lib.hid hb3; have HB3 := Lib.hid (HB2.out.trans (hb3.mono HB2.out.size)); clear h3 ho3 hb3))
  have HB13 : Hid (Below w1.heap.size w1 w3) := Lib.hid (HB12.out.trans (HB23.out.mono HB12.out.size))
  have HP1 : Hid (∀ V, Below w3.heap.size w3 V → V.ownsRow w.heap.size 37 4 (.slice A1 n d1) n (cellsP us) ∧ ∀ u ∈ us, Byt V u.A u.p.body) := Lib.hid (fun V hV => by
    have hb := HB13.out.trans (hV.mono HB13.out.size)
    exact ⟨own_moved (p := fun _ => False) HO1.out (Below.movedNew hb) (fun _ _ h => h), fun u hu => (HBy.out u hu).later hb⟩)
  have HP2 : Hid (∀ V, Below w3.heap.size w3 V → V.ownsRow w1.heap.size 3 1 (.slice A2 m d2) m ((toS s.l a).map (.int .i64)) ∧ V.ownsRow w2.heap.size 3 1 (.slice A3 m d3) m ((toS s.l a).map (.int .i64))) := Lib.hid (fun V hV =>
    ⟨own_moved (p := fun _ => False) HO2.out (Below.movedNew (HB23.out.trans (hV.mono HB23.out.size))) (fun _ _ h => h), own_moved (p := fun _ => False) HO3.out (Below.movedNew hV) (fun _ _ h => h)⟩)
  have HV3 : Hid (∀ V, Below w3.heap.size w3 V → Below w.heap.size w V) := Lib.hid (fun V hV => HB3.out.trans (hV.mono HB3.out.size))
  have HLc : Hid (∀ V, Below w3.heap.size w3 V → Calls Try.prog 23 #[.pointer (some ⟨q, 0, none⟩)] V fun e V' => e = .returned (.int .i64 (n : Int)) ∧ V = V') := Lib.hid (fun V hV => by rw [HLs.out]; exact len_any (HN.out V (HV3.out V hV)))
  have HOc : Hid (∀ V, Below w3.heap.size w3 V → Calls Try.prog 22 #[.pointer (some ⟨q, 0, none⟩)] V fun e V' => e = .returned (.int .i64 s.lost) ∧ V = V') := Lib.hid (fun V hV => lost_any (HN.out V (HV3.out V hV)))
  have HS2 : Hid (∀ V, Below w3.heap.size w3 V → V.cell? ⟨x, 1, none⟩ = some (.slice A' n c') ∧ V.cell? ⟨x, 3, none⟩ = some (.int .i64 s.lost)) := Lib.hid (fun V hV => by
    have h := (HR.out V (HV3.out V hV)).cells
    rw [HYl.out] at h
    exact ⟨h.2.1, h.2.2.2⟩)
  clear HO1 HO2 HO3 HBy HB13 HB12 HB23 HB1 HB2
  refine wp_region_held_drew (S := (fun V => Below w3.heap.size w3 V)) (by kernel_rfl) (Below.refl _ _).drew (fun hHeld => ?_)
  refine wpAnyH_take (i := 0) (v := ?vv1) rfl (by kernel_rfl) (by kernel_rfl) (by kernel_rfl) (fun _ _ _ h => h) (Or.inl ⟨by rfl, ?hy1⟩) hHeld ?rr1
  case hy1 => (intro w' hSw; obtain ⟨g0, g1⟩ := HS2.out _ hSw; go_simp; try with_reducible rfl)
  try simp only [Act.put, List.setIfInBounds_toArray, List.set_cons_zero, List.set_cons_succ, List.getElem_toArray, List.getElem_cons_succ, List.getElem_cons_zero]
  refine wpAnyH_take (i := 1) (v := ?vv2) rfl (by kernel_rfl) (by kernel_rfl) (by kernel_rfl) (fun _ _ _ h => h) (Or.inl ⟨by rfl, ?hy2⟩) hHeld ?rr2
  case hy2 => (intro w' hSw; obtain ⟨g0, g1⟩ := HS2.out _ hSw; go_simp; try with_reducible rfl)
  try simp only [Act.put, List.setIfInBounds_toArray, List.set_cons_zero, List.set_cons_succ, List.getElem_toArray, List.getElem_cons_succ, List.getElem_cons_zero]
  refine wpAnyH_take (i := 2) (v := ?vv3) rfl (by kernel_rfl) (by kernel_rfl) (by kernel_rfl) (fun _ _ _ h => h) (Or.inl ⟨by rfl, ?hy3⟩) hHeld ?rr3
  case hy3 => (intro w' hSw; obtain ⟨g0, g1⟩ := HS2.out _ hSw; go_simp; try with_reducible rfl)
  try simp only [Act.put, List.setIfInBounds_toArray, List.set_cons_zero, List.set_cons_succ, List.getElem_toArray, List.getElem_cons_succ, List.getElem_cons_zero]
  refine wpAnyH_take (i := 3) (v := ?vv4) rfl (by kernel_rfl) (by kernel_rfl) (by kernel_rfl) (fun _ _ _ h => h) (Or.inl ⟨by rfl, ?hy4⟩) hHeld ?rr4
  case hy4 => (intro w' hSw; obtain ⟨g0, g1⟩ := HS2.out _ hSw; go_simp; try with_reducible rfl)
  try simp only [Act.put, List.setIfInBounds_toArray, List.set_cons_zero, List.set_cons_succ, List.getElem_toArray, List.getElem_cons_succ, List.getElem_cons_zero]
  refine wpAnyH_take (i := 4) (v := ?vv5) rfl (by kernel_rfl) (by kernel_rfl) (by kernel_rfl) (fun _ _ _ h => h) (Or.inl ⟨by rfl, ?hy5⟩) hHeld ?rr5
  case hy5 => (intro w' hSw; obtain ⟨g0, g1⟩ := HS2.out _ hSw; go_simp; try with_reducible rfl)
  try simp only [Act.put, List.setIfInBounds_toArray, List.set_cons_zero, List.set_cons_succ, List.getElem_toArray, List.getElem_cons_succ, List.getElem_cons_zero]
  refine wpAnyH_take (i := 5) (v := ?vv6) rfl (by kernel_rfl) (by kernel_rfl) (by kernel_rfl) (fun _ _ _ h => h) (Or.inl ⟨by rfl, ?hy6⟩) hHeld ?rr6
  case hy6 => (intro w' hSw; obtain ⟨g0, g1⟩ := HS2.out _ hSw; go_simp; try with_reducible rfl)
  try simp only [Act.put, List.setIfInBounds_toArray, List.set_cons_zero, List.set_cons_succ, List.getElem_toArray, List.getElem_cons_succ, List.getElem_cons_zero]
  refine wpAnyH_take (i := 6) (v := ?vv7) rfl (by kernel_rfl) (by kernel_rfl) (by kernel_rfl) (fun _ _ _ h => h) (Or.inl ⟨by rfl, ?hy7⟩) hHeld ?rr7
  case hy7 => (intro w' hSw; obtain ⟨g0, g1⟩ := HS2.out _ hSw; go_simp; try with_reducible rfl)
  try simp only [Act.put, List.setIfInBounds_toArray, List.set_cons_zero, List.set_cons_succ, List.getElem_toArray, List.getElem_cons_succ, List.getElem_cons_zero]
  refine wpAnyH_take (i := 7) (v := ?vv8) rfl (by kernel_rfl) (by kernel_rfl) (by kernel_rfl) (fun _ _ _ h => h) (Or.inl ⟨by rfl, ?hy8⟩) hHeld ?rr8
  case hy8 => (intro w' hSw; obtain ⟨g0, g1⟩ := HS2.out _ hSw; go_simp; try with_reducible rfl)
  try simp only [Act.put, List.setIfInBounds_toArray, List.set_cons_zero, List.set_cons_succ, List.getElem_toArray, List.getElem_cons_succ, List.getElem_cons_zero]
  refine wpAnyH_take (i := 8) (v := ?vv9) rfl (by kernel_rfl) (by kernel_rfl) (by kernel_rfl) (fun _ _ _ h => h) (Or.inl ⟨by rfl, ?hy9⟩) hHeld ?rr9
  case hy9 => (intro w' hSw; obtain ⟨g0, g1⟩ := HS2.out _ hSw; go_simp; try with_reducible rfl)
  try simp only [Act.put, List.setIfInBounds_toArray, List.set_cons_zero, List.set_cons_succ, List.getElem_toArray, List.getElem_cons_succ, List.getElem_cons_zero]
  refine wpAnyH_take (i := 9) (v := ?vv10) rfl (by kernel_rfl) (by kernel_rfl) (by kernel_rfl) (fun _ _ _ h => h) (Or.inl ⟨by rfl, ?hy10⟩) hHeld ?rr10
  case hy10 => (intro w' hSw; obtain ⟨g0, g1⟩ := HS2.out _ hSw; go_simp; try with_reducible rfl)
  try simp only [Act.put, List.setIfInBounds_toArray, List.set_cons_zero, List.set_cons_succ, List.getElem_toArray, List.getElem_cons_succ, List.getElem_cons_zero]
  refine wpAnyH_take (i := 11) (v := ?vv11) rfl (by kernel_rfl) (by kernel_rfl) (by kernel_rfl) (fun _ _ _ h => h) (Or.inl ⟨by rfl, ?hy11⟩) hHeld ?rr11
  case hy11 => (intro w' hSw; obtain ⟨g0, g1⟩ := HS2.out _ hSw; go_simp; try with_reducible rfl)
  try simp only [Act.put, List.setIfInBounds_toArray, List.set_cons_zero, List.set_cons_succ, List.getElem_toArray, List.getElem_cons_succ, List.getElem_cons_zero]
  refine wpAnyH_take (i := 12) (v := ?vv12) rfl (by kernel_rfl) (by kernel_rfl) (by kernel_rfl) (fun _ _ _ h => h) (Or.inl ⟨by rfl, ?hy12⟩) hHeld ?rr12
  case hy12 => (intro w' hSw; obtain ⟨g0, g1⟩ := HS2.out _ hSw; go_simp; try with_reducible rfl)
  try simp only [Act.put, List.setIfInBounds_toArray, List.set_cons_zero, List.set_cons_succ, List.getElem_toArray, List.getElem_cons_succ, List.getElem_cons_zero]
  refine wpAnyH_take (i := 13) (v := ?vv13) rfl (by kernel_rfl) (by kernel_rfl) (by kernel_rfl) (fun _ _ _ h => h) (Or.inl ⟨by rfl, ?hy13⟩) hHeld ?rr13
  case hy13 => (intro w' hSw; obtain ⟨g0, g1⟩ := HS2.out _ hSw; go_simp; try with_reducible rfl)
  try simp only [Act.put, List.setIfInBounds_toArray, List.set_cons_zero, List.set_cons_succ, List.getElem_toArray, List.getElem_cons_succ, List.getElem_cons_zero]
  refine wpAnyH_take (i := 14) (v := ?vv14) rfl (by kernel_rfl) (by kernel_rfl) (by kernel_rfl) (fun _ _ _ h => h) (Or.inl ⟨by rfl, ?hy14⟩) hHeld ?rr14
  case hy14 => (intro w' hSw; obtain ⟨g0, g1⟩ := HS2.out _ hSw; go_simp; try with_reducible rfl)
  try simp only [Act.put, List.setIfInBounds_toArray, List.set_cons_zero, List.set_cons_succ, List.getElem_toArray, List.getElem_cons_succ, List.getElem_cons_zero]
  refine wpAnyH_take (i := 15) (v := ?vv15) rfl (by kernel_rfl) (by kernel_rfl) (by kernel_rfl) (fun _ _ _ h => h) (Or.inl ⟨by rfl, ?hy15⟩) hHeld ?rr15
  case hy15 => (intro w' hSw; obtain ⟨g0, g1⟩ := HS2.out _ hSw; go_simp; try with_reducible rfl)
  try simp only [Act.put, List.setIfInBounds_toArray, List.set_cons_zero, List.set_cons_succ, List.getElem_toArray, List.getElem_cons_succ, List.getElem_cons_zero]
  refine wpAnyH_ready (rs := [10]) (by kernel_rfl) (by simp) ?_
  refine AllReadyH.cons rfl (fun K hK => ?_) AllReadyH.nil
  try rw [if_pos (by rfl)]
  go_simp
  go_at_call 23
  refine Calls.mono (HLc.out _ (Below.refl _ _).drew) ?_
  rintro e w4 ⟨rfl, rfl⟩
  go_wp2_with fail
  refine hK.out _ _ (Below.refl _ _).drew (fun hHeld2 => ?_)
  clear hK K hHeld
  have hHeld := hHeld2
  clear hHeld2
  try simp only [Act.put, List.setIfInBounds_toArray, List.set_cons_zero, List.set_cons_succ, List.getElem_toArray, List.getElem_cons_succ, List.getElem_cons_zero]
  refine wpAnyH_take (i := 16) (v := ?vv16) rfl (by kernel_rfl) (by kernel_rfl) (by kernel_rfl) (fun _ _ _ h => h) (Or.inl ⟨by rfl, ?hy16⟩) hHeld ?rr16
  case hy16 => (intro w' hSw; obtain ⟨g0, g1⟩ := HS2.out _ hSw; go_simp; try with_reducible rfl)
  try simp only [Act.put, List.setIfInBounds_toArray, List.set_cons_zero, List.set_cons_succ, List.getElem_toArray, List.getElem_cons_succ, List.getElem_cons_zero]
  refine wpAnyH_take (i := 17) (v := ?vv17) rfl (by kernel_rfl) (by kernel_rfl) (by kernel_rfl) (fun _ _ _ h => h) (Or.inl ⟨by rfl, ?hy17⟩) hHeld ?rr17
  case hy17 => (intro w' hSw; obtain ⟨g0, g1⟩ := HS2.out _ hSw; go_simp; try with_reducible rfl)
  try simp only [Act.put, List.setIfInBounds_toArray, List.set_cons_zero, List.set_cons_succ, List.getElem_toArray, List.getElem_cons_succ, List.getElem_cons_zero]
  refine wpAnyH_take (i := 18) (v := ?vv18) rfl (by kernel_rfl) (by kernel_rfl) (by kernel_rfl) (fun _ _ _ h => h) (Or.inl ⟨by rfl, ?hy18⟩) hHeld ?rr18
  case hy18 => (intro w' hSw; obtain ⟨g0, g1⟩ := HS2.out _ hSw; go_simp; try with_reducible rfl)
  try simp only [Act.put, List.setIfInBounds_toArray, List.set_cons_zero, List.set_cons_succ, List.getElem_toArray, List.getElem_cons_succ, List.getElem_cons_zero]
  refine wpAnyH_take (i := 19) (v := ?vv19) rfl (by kernel_rfl) (by kernel_rfl) (by kernel_rfl) (fun _ _ _ h => h) (Or.inl ⟨by rfl, ?hy19⟩) hHeld ?rr19
  case hy19 => (intro w' hSw; obtain ⟨g0, g1⟩ := HS2.out _ hSw; go_simp; try with_reducible rfl)
  try simp only [Act.put, List.setIfInBounds_toArray, List.set_cons_zero, List.set_cons_succ, List.getElem_toArray, List.getElem_cons_succ, List.getElem_cons_zero]
  refine wpAnyH_take (i := 21) (v := ?vv20) rfl (by kernel_rfl) (by kernel_rfl) (by kernel_rfl) (fun _ _ _ h => h) (Or.inl ⟨by rfl, ?hy20⟩) hHeld ?rr20
  case hy20 => (intro w' hSw; obtain ⟨g0, g1⟩ := HS2.out _ hSw; go_simp; try with_reducible rfl)
  try simp only [Act.put, List.setIfInBounds_toArray, List.set_cons_zero, List.set_cons_succ, List.getElem_toArray, List.getElem_cons_succ, List.getElem_cons_zero]
  refine wpAnyH_take (i := 22) (v := ?vv21) rfl (by kernel_rfl) (by kernel_rfl) (by kernel_rfl) (fun _ _ _ h => h) (Or.inl ⟨by rfl, ?hy21⟩) hHeld ?rr21
  case hy21 => (intro w' hSw; obtain ⟨g0, g1⟩ := HS2.out _ hSw; go_simp; try with_reducible rfl)
  try simp only [Act.put, List.setIfInBounds_toArray, List.set_cons_zero, List.set_cons_succ, List.getElem_toArray, List.getElem_cons_succ, List.getElem_cons_zero]
  refine wpAnyH_take (i := 23) (v := ?vv22) rfl (by kernel_rfl) (by kernel_rfl) (by kernel_rfl) (fun _ _ _ h => h) (Or.inl ⟨by rfl, ?hy22⟩) hHeld ?rr22
  case hy22 => (intro w' hSw; obtain ⟨g0, g1⟩ := HS2.out _ hSw; go_simp; try with_reducible rfl)
  try simp only [Act.put, List.setIfInBounds_toArray, List.set_cons_zero, List.set_cons_succ, List.getElem_toArray, List.getElem_cons_succ, List.getElem_cons_zero]
  refine wpAnyH_take (i := 24) (v := ?vv23) rfl (by kernel_rfl) (by kernel_rfl) (by kernel_rfl) (fun _ _ _ h => h) (Or.inl ⟨by rfl, ?hy23⟩) hHeld ?rr23
  case hy23 => (intro w' hSw; obtain ⟨g0, g1⟩ := HS2.out _ hSw; go_simp; try with_reducible rfl)
  try simp only [Act.put, List.setIfInBounds_toArray, List.set_cons_zero, List.set_cons_succ, List.getElem_toArray, List.getElem_cons_succ, List.getElem_cons_zero]
  refine wpAnyH_ready (rs := [20]) (by kernel_rfl) (by simp) ?_
  refine AllReadyH.cons rfl (fun K hK => ?_) AllReadyH.nil
  try rw [if_pos (by rfl)]
  go_simp
  go_at_call 22
  refine Calls.mono (HOc.out _ (Below.refl _ _).drew) ?_
  rintro e w4 ⟨rfl, rfl⟩
  go_wp2_with fail
  refine hK.out _ _ (Below.refl _ _).drew (fun hHeld2 => ?_)
  clear hK K hHeld
  have hHeld := hHeld2
  clear hHeld2
  try simp only [Act.put, List.setIfInBounds_toArray, List.set_cons_zero, List.set_cons_succ, List.getElem_toArray, List.getElem_cons_succ, List.getElem_cons_zero]
  refine wpAnyH_take (i := 25) (v := ?vv24) rfl (by kernel_rfl) (by kernel_rfl) (by kernel_rfl) (fun _ _ _ h => h) (Or.inl ⟨by rfl, ?hy24⟩) hHeld ?rr24
  case hy24 => (intro w' hSw; obtain ⟨g0, g1⟩ := HS2.out _ hSw; go_simp; try with_reducible rfl)
  try simp only [Act.put, List.setIfInBounds_toArray, List.set_cons_zero, List.set_cons_succ, List.getElem_toArray, List.getElem_cons_succ, List.getElem_cons_zero]
  refine wpAnyH_take (i := 26) (v := ?vv25) rfl (by kernel_rfl) (by kernel_rfl) (by kernel_rfl) (fun _ _ _ h => h) (Or.inl ⟨by rfl, ?hy25⟩) hHeld ?rr25
  case hy25 => (intro w' hSw; obtain ⟨g0, g1⟩ := HS2.out _ hSw; go_simp; try with_reducible rfl)
  try simp only [Act.put, List.setIfInBounds_toArray, List.set_cons_zero, List.set_cons_succ, List.getElem_toArray, List.getElem_cons_succ, List.getElem_cons_zero]
  refine wpAnyH_take (i := 27) (v := ?vv26) rfl (by kernel_rfl) (by kernel_rfl) (by kernel_rfl) (fun _ _ _ h => h) (Or.inl ⟨by rfl, ?hy26⟩) hHeld ?rr26
  case hy26 => (intro w' hSw; obtain ⟨g0, g1⟩ := HS2.out _ hSw; go_simp; try with_reducible rfl)
  try simp only [Act.put, List.setIfInBounds_toArray, List.set_cons_zero, List.set_cons_succ, List.getElem_toArray, List.getElem_cons_succ, List.getElem_cons_zero]
  refine wpAnyH_take (i := 28) (v := ?vv27) rfl (by kernel_rfl) (by kernel_rfl) (by kernel_rfl) (fun _ _ _ h => h) (Or.inl ⟨by rfl, ?hy27⟩) hHeld ?rr27
  case hy27 => (intro w' hSw; obtain ⟨g0, g1⟩ := HS2.out _ hSw; go_simp; try with_reducible rfl)
  try simp only [Act.put, List.setIfInBounds_toArray, List.set_cons_zero, List.set_cons_succ, List.getElem_toArray, List.getElem_cons_succ, List.getElem_cons_zero]
  refine wpAnyH_take (i := 29) (v := ?vv28) rfl (by kernel_rfl) (by kernel_rfl) (by kernel_rfl) (fun _ _ _ h => h) (Or.inl ⟨by rfl, ?hy28⟩) hHeld ?rr28
  case hy28 => (intro w' hSw; obtain ⟨g0, g1⟩ := HS2.out _ hSw; go_simp; try with_reducible rfl)
  try simp only [Act.put, List.setIfInBounds_toArray, List.set_cons_zero, List.set_cons_succ, List.getElem_toArray, List.getElem_cons_succ, List.getElem_cons_zero]
  refine wpAnyH_take (i := 30) (v := ?vv29) rfl (by kernel_rfl) (by kernel_rfl) (by kernel_rfl) (fun _ _ _ h => h) (Or.inl ⟨by rfl, ?hy29⟩) hHeld ?rr29
  case hy29 => (intro w' hSw; obtain ⟨g0, g1⟩ := HS2.out _ hSw; go_simp; try with_reducible rfl)
  try simp only [Act.put, List.setIfInBounds_toArray, List.set_cons_zero, List.set_cons_succ, List.getElem_toArray, List.getElem_cons_succ, List.getElem_cons_zero]
  refine wpAnyH_take (i := 31) (v := ?vv30) rfl (by kernel_rfl) (by kernel_rfl) (by kernel_rfl) (fun _ _ _ h => h) (Or.inl ⟨by rfl, ?hy30⟩) hHeld ?rr30
  case hy30 => (intro w' hSw; obtain ⟨g0, g1⟩ := HS2.out _ hSw; go_simp; try with_reducible rfl)
  try simp only [Act.put, List.setIfInBounds_toArray, List.set_cons_zero, List.set_cons_succ, List.getElem_toArray, List.getElem_cons_succ, List.getElem_cons_zero]
  refine wpAnyH_take (i := 32) (v := ?vv31) rfl (by kernel_rfl) (by kernel_rfl) (by kernel_rfl) (fun _ _ _ h => h) (Or.inl ⟨by rfl, ?hy31⟩) hHeld ?rr31
  case hy31 => (intro w' hSw; obtain ⟨g0, g1⟩ := HS2.out _ hSw; go_simp; try with_reducible rfl)
  try simp only [Act.put, List.setIfInBounds_toArray, List.set_cons_zero, List.set_cons_succ, List.getElem_toArray, List.getElem_cons_succ, List.getElem_cons_zero]
  refine wpAnyH_take (i := 33) (v := ?vv32) rfl (by kernel_rfl) (by kernel_rfl) (by kernel_rfl) (fun _ _ _ h => h) (Or.inl ⟨by rfl, ?hy32⟩) hHeld ?rr32
  case hy32 => (intro w' hSw; obtain ⟨g0, g1⟩ := HS2.out _ hSw; go_simp; try with_reducible rfl)
  try simp only [Act.put, List.setIfInBounds_toArray, List.set_cons_zero, List.set_cons_succ, List.getElem_toArray, List.getElem_cons_succ, List.getElem_cons_zero]
  refine wpAnyH_done (by kernel_rfl) ?_ _
  clear hHeld
  go_wp2
  go_loopw [10] (fun iv wr => ∃ k : Nat, k ≤ n ∧ iv = .int .i64 (k : Int) ∧ Hid (Below w3.heap.size w3 wr)) (fun iv _ => n - (intOf iv).toNat)
  case atStart => exact ⟨0, Nat.zero_le _, rfl, Lib.hid (by first | exact (Below.refl _ _).drew | exact ((Below.refl _ _).drew).drew | exact Below.refl _ _)⟩
  case round =>
    obtain ⟨k, hkn, rfl, HBr⟩ := hrel
    by_cases hlt : k < n
    · have hlt' : (k : Int) < (n : Int) := by omega
      have hkz : (0 : Int) ≤ (k : Int) := by omega
      have hks : k < s.l.length := by rw [← HLs.out]; exact hlt
      have hku : k < us.length := by rw [HUl.out]; exact hlt
      have hky : k < ys.length := by rw [HYl.out]; exact hlt
      obtain ⟨pk, hpk⟩ : ∃ pk, pk = s.l[k] := ⟨_, rfl⟩
      have hu : us[k].p = pk := by rw [hpk]; simp only [← HUm.out, List.getElem_map]
      have hy : ys[k].p = pk := by rw [hpk]; simp only [← (HR.out w (Below.refl _ _)).is, List.getElem_map]
      obtain ⟨g, eg, _⟩ := rowP_at (by rw [HUl.out]; exact (HP1.out wr HBr.out).1) hku
      obtain ⟨g', eg', _⟩ := rowP_at (HR.out wr (HV3.out wr HBr.out)).row hky
      subst eg; subst eg'
      obtain ⟨zA, hzA⟩ : ∃ zA, zA = us[k].A := ⟨_, rfl⟩
      obtain ⟨zc, hzc⟩ : ∃ zc, zc = us[k].c := ⟨_, rfl⟩
      obtain ⟨yA, hyA⟩ : ∃ yA, yA = ys[k].A := ⟨_, rfl⟩
      obtain ⟨yc, hyc⟩ : ∃ yc, yc = ys[k].c := ⟨_, rfl⟩
      have HS7 : Hid (∀ V, Below wr.heap.size wr V → (V.cell? ⟨x, 1, none⟩ = some (.slice (some ⟨g', 0, none⟩) n c')) ∧ (V.cell? ⟨g, k * 4, none⟩ = some (.int .i64 pk.id) ∧ V.cell? ⟨g, k * 4 + 1, none⟩ = some (.int .i64 pk.fr) ∧ V.cell? ⟨g, k * 4 + 2, none⟩ = some (.int .i64 pk.dst) ∧ V.cell? ⟨g, k * 4 + 3, none⟩ = some (.slice zA pk.body.length zc)) ∧
          (V.cell? ⟨g', k * 4, none⟩ = some (.int .i64 pk.id) ∧ V.cell? ⟨g', k * 4 + 1, none⟩ = some (.int .i64 pk.fr) ∧ V.cell? ⟨g', k * 4 + 2, none⟩ = some (.int .i64 pk.dst) ∧ V.cell? ⟨g', k * 4 + 3, none⟩ = some (.slice yA pk.body.length yc))) := Lib.hid (fun V hV => by
        have hb := HBr.out.trans (hV.mono HBr.out.size)
        refine ⟨(HS2.out V hb).1, ?_, ?_⟩
        · obtain ⟨g1, e1, h1⟩ := rowP_at (by rw [HUl.out]; exact (HP1.out V hb).1) hku
          injection e1 with e1; injection e1 with e1; subst e1
          unfold PkV.val at h1
          rw [hu, ← hzA, ← hzc] at h1; exact h1
        · obtain ⟨g1, e1, h1⟩ := rowP_at (HR.out V (HV3.out V hb)).row hky
          injection e1 with e1; injection e1 with e1; subst e1
          unfold PkV.val at h1
          rw [hy, ← hyA, ← hyc] at h1; exact h1)
      have HSm : Hid (∀ V, Below wr.heap.size wr V → Calls Try.prog 14 #[.agg #[.int .i64 pk.id, .int .i64 pk.fr, .int .i64 pk.dst, .slice zA pk.body.length zc], .agg #[.int .i64 pk.id, .int .i64 pk.fr, .int .i64 pk.dst, .slice yA pk.body.length yc]] V fun e V' => e = .returned (.bool true) ∧ Below V.heap.size V V') := Lib.hid (fun V hV => by
        have hb := HBr.out.trans (hV.mono HBr.out.size)
        have h1 := (HP1.out V hb).2 us[k] (List.getElem_mem _)
        have h2 := ((HR.out V (HV3.out V hb)).bod ys[k] (List.getElem_mem _)).byt
        rw [hu, ← hzA] at h1
        rw [hy, ← hyA] at h2
        have h3 := same_any pk pk zA yA zc yc V h1 h2
        rw [sameB_self] at h3
        exact h3)
      clear hu hy hpk hzA hzc hyA hyc
      go_wp2_with fail
      refine wp_region_held_drew (S := (fun V => Below wr.heap.size wr V)) (by kernel_rfl) (Below.refl _ _).drew (fun hHeld => ?_)
      refine wpAnyH_take (i := 0) (v := ?vv33) rfl (by kernel_rfl) (by kernel_rfl) (by kernel_rfl) (fun _ _ _ h => h) (Or.inl ⟨by rfl, ?hy33⟩) hHeld ?rr33
      case hy33 => (intro w' hSw; obtain ⟨g1, ⟨l0, l1, l2, l3⟩, ⟨m0, m1, m2, m3⟩⟩ := HS7.out _ hSw; go_simp; try with_reducible rfl)
      try simp only [Act.put, List.setIfInBounds_toArray, List.set_cons_zero, List.set_cons_succ, List.getElem_toArray, List.getElem_cons_succ, List.getElem_cons_zero]
      refine wpAnyH_take (i := 1) (v := ?vv34) rfl (by kernel_rfl) (by kernel_rfl) (by kernel_rfl) (fun _ _ _ h => h) (Or.inl ⟨by rfl, ?hy34⟩) hHeld ?rr34
      case hy34 => (intro w' hSw; obtain ⟨g1, ⟨l0, l1, l2, l3⟩, ⟨m0, m1, m2, m3⟩⟩ := HS7.out _ hSw; go_simp; try with_reducible rfl)
      try simp only [Act.put, List.setIfInBounds_toArray, List.set_cons_zero, List.set_cons_succ, List.getElem_toArray, List.getElem_cons_succ, List.getElem_cons_zero]
      refine wpAnyH_take (i := 2) (v := ?vv35) rfl (by kernel_rfl) (by kernel_rfl) (by kernel_rfl) (fun _ _ _ h => h) (Or.inl ⟨by rfl, ?hy35⟩) hHeld ?rr35
      case hy35 => (intro w' hSw; obtain ⟨g1, ⟨l0, l1, l2, l3⟩, ⟨m0, m1, m2, m3⟩⟩ := HS7.out _ hSw; go_simp; try with_reducible rfl)
      try simp only [Act.put, List.setIfInBounds_toArray, List.set_cons_zero, List.set_cons_succ, List.getElem_toArray, List.getElem_cons_succ, List.getElem_cons_zero]
      refine wpAnyH_take (i := 3) (v := ?vv36) rfl (by kernel_rfl) (by kernel_rfl) (by kernel_rfl) (fun _ _ _ h => h) (Or.inl ⟨by rfl, ?hy36⟩) hHeld ?rr36
      case hy36 => (intro w' hSw; obtain ⟨g1, ⟨l0, l1, l2, l3⟩, ⟨m0, m1, m2, m3⟩⟩ := HS7.out _ hSw; go_simp; try with_reducible rfl)
      try simp only [Act.put, List.setIfInBounds_toArray, List.set_cons_zero, List.set_cons_succ, List.getElem_toArray, List.getElem_cons_succ, List.getElem_cons_zero]
      refine wpAnyH_take (i := 4) (v := ?vv37) rfl (by kernel_rfl) (by kernel_rfl) (by kernel_rfl) (fun _ _ _ h => h) (Or.inl ⟨by rfl, ?hy37⟩) hHeld ?rr37
      case hy37 => (intro w' hSw; obtain ⟨g1, ⟨l0, l1, l2, l3⟩, ⟨m0, m1, m2, m3⟩⟩ := HS7.out _ hSw; go_simp; try with_reducible rfl)
      try simp only [Act.put, List.setIfInBounds_toArray, List.set_cons_zero, List.set_cons_succ, List.getElem_toArray, List.getElem_cons_succ, List.getElem_cons_zero]
      refine wpAnyH_take (i := 5) (v := ?vv38) rfl (by kernel_rfl) (by kernel_rfl) (by kernel_rfl) (fun _ _ _ h => h) (Or.inl ⟨by rfl, ?hy38⟩) hHeld ?rr38
      case hy38 => (intro w' hSw; obtain ⟨g1, ⟨l0, l1, l2, l3⟩, ⟨m0, m1, m2, m3⟩⟩ := HS7.out _ hSw; go_simp; try with_reducible rfl)
      try simp only [Act.put, List.setIfInBounds_toArray, List.set_cons_zero, List.set_cons_succ, List.getElem_toArray, List.getElem_cons_succ, List.getElem_cons_zero]
      refine wpAnyH_take (i := 6) (v := ?vv39) rfl (by kernel_rfl) (by kernel_rfl) (by kernel_rfl) (fun _ _ _ h => h) (Or.inl ⟨by rfl, ?hy39⟩) hHeld ?rr39
      case hy39 => (intro w' hSw; obtain ⟨g1, ⟨l0, l1, l2, l3⟩, ⟨m0, m1, m2, m3⟩⟩ := HS7.out _ hSw; go_simp; try with_reducible rfl)
      try simp only [Act.put, List.setIfInBounds_toArray, List.set_cons_zero, List.set_cons_succ, List.getElem_toArray, List.getElem_cons_succ, List.getElem_cons_zero]
      refine wpAnyH_take (i := 7) (v := ?vv40) rfl (by kernel_rfl) (by kernel_rfl) (by kernel_rfl) (fun _ _ _ h => h) (Or.inl ⟨by rfl, ?hy40⟩) hHeld ?rr40
      case hy40 => (intro w' hSw; obtain ⟨g1, ⟨l0, l1, l2, l3⟩, ⟨m0, m1, m2, m3⟩⟩ := HS7.out _ hSw; go_simp; try with_reducible rfl)
      try simp only [Act.put, List.setIfInBounds_toArray, List.set_cons_zero, List.set_cons_succ, List.getElem_toArray, List.getElem_cons_succ, List.getElem_cons_zero]
      refine wpAnyH_take (i := 8) (v := ?vv41) rfl (by kernel_rfl) (by kernel_rfl) (by kernel_rfl) (fun _ _ _ h => h) (Or.inl ⟨by rfl, ?hy41⟩) hHeld ?rr41
      case hy41 => (intro w' hSw; obtain ⟨g1, ⟨l0, l1, l2, l3⟩, ⟨m0, m1, m2, m3⟩⟩ := HS7.out _ hSw; go_simp; try with_reducible rfl)
      try simp only [Act.put, List.setIfInBounds_toArray, List.set_cons_zero, List.set_cons_succ, List.getElem_toArray, List.getElem_cons_succ, List.getElem_cons_zero]
      refine wpAnyH_take (i := 9) (v := ?vv42) rfl (by kernel_rfl) (by kernel_rfl) (by kernel_rfl) (fun _ _ _ h => h) (Or.inl ⟨by rfl, ?hy42⟩) hHeld ?rr42
      case hy42 => (intro w' hSw; obtain ⟨g1, ⟨l0, l1, l2, l3⟩, ⟨m0, m1, m2, m3⟩⟩ := HS7.out _ hSw; go_simp; try with_reducible rfl)
      try simp only [Act.put, List.setIfInBounds_toArray, List.set_cons_zero, List.set_cons_succ, List.getElem_toArray, List.getElem_cons_succ, List.getElem_cons_zero]
      refine wpAnyH_take (i := 10) (v := ?vv43) rfl (by kernel_rfl) (by kernel_rfl) (by kernel_rfl) (fun _ _ _ h => h) (Or.inl ⟨by rfl, ?hy43⟩) hHeld ?rr43
      case hy43 => (intro w' hSw; obtain ⟨g1, ⟨l0, l1, l2, l3⟩, ⟨m0, m1, m2, m3⟩⟩ := HS7.out _ hSw; go_simp; try with_reducible rfl)
      try simp only [Act.put, List.setIfInBounds_toArray, List.set_cons_zero, List.set_cons_succ, List.getElem_toArray, List.getElem_cons_succ, List.getElem_cons_zero]
      refine wpAnyH_ready (rs := [11]) (by kernel_rfl) (by simp) ?_
      refine AllReadyH.cons rfl (fun K hK => ?_) AllReadyH.nil
      try rw [if_pos (by rfl)]
      go_simp
      go_at_call 14
      refine Calls.mono (HSm.out _ (Below.refl _ _).drew) ?_
      rintro e w5 ⟨rfl, hb5⟩
      have HB5 : Hid (Below wr.heap.size wr w5) := Lib.hid ((Below.refl wr.heap.size wr).drew.trans hb5)
      clear hb5
      go_wp2_with fail
      refine hK.out _ _ HB5.out (fun hHeld2 => ?_)
      clear hK K hHeld
      have hHeld := hHeld2
      clear hHeld2
      try simp only [Act.put, List.setIfInBounds_toArray, List.set_cons_zero, List.set_cons_succ, List.getElem_toArray, List.getElem_cons_succ, List.getElem_cons_zero]
      refine wpAnyH_take (i := 12) (v := ?vv44) rfl (by kernel_rfl) (by kernel_rfl) (by kernel_rfl) (fun _ _ _ h => h) (Or.inl ⟨by rfl, ?hy44⟩) hHeld ?rr44
      case hy44 => (intro w' hSw; obtain ⟨g1, ⟨l0, l1, l2, l3⟩, ⟨m0, m1, m2, m3⟩⟩ := HS7.out _ hSw; go_simp; try with_reducible rfl)
      try simp only [Act.put, List.setIfInBounds_toArray, List.set_cons_zero, List.set_cons_succ, List.getElem_toArray, List.getElem_cons_succ, List.getElem_cons_zero]
      refine wpAnyH_done (by kernel_rfl) ?_ _
      clear hHeld
      go_wp2
      go_roundw
      case rel => exact ⟨k + 1, by omega, by go_num, Lib.hid (HBr.out.trans (HB5.out.mono HBr.out.size))⟩
      case measure => simp [intOf]; omega
    · have hlt' : ¬ (k : Int) < (n : Int) := by omega
      clear hkn hlt
      go_wp2
      go_loopw [11] (fun iv wr => ∃ k : Nat, k ≤ m ∧ iv = .int .i64 (k : Int) ∧ Hid (Below w3.heap.size w3 wr)) (fun iv _ => m - (intOf iv).toNat)
      case atStart => exact ⟨0, Nat.zero_le _, rfl, HBr⟩
      case round =>
        obtain ⟨k2, hkn, rfl, HBv⟩ := hrel
        by_cases hlt : k2 < m
        · have hlt2 : (k2 : Int) < (m : Int) := by omega
          have hkz : (0 : Int) ≤ (k2 : Int) := by omega
          have hkt : k2 < (toS s.l a).length := by rw [← HMs.out]; exact hlt
          obtain ⟨zv, hzv⟩ : ∃ z, z = (toS s.l a)[k2] := ⟨_, rfl⟩
          have hat : ((toS s.l a).map (Value.int .i64))[k2]? = some (.int .i64 zv) := by rw [List.getElem?_map, List.getElem?_eq_getElem hkt, hzv]; rfl
          obtain ⟨g, eg, _⟩ := own_cell (HP2.out wr HBv.out).1 rfl k2 (by omega)
          obtain ⟨g', eg', _⟩ := own_cell (HP2.out wr HBv.out).2 rfl k2 (by omega)
          subst eg; subst eg'
          have HS12 : Hid (∀ V, Below wr.heap.size wr V → V.cell? ⟨g, k2, none⟩ = some (.int .i64 zv) ∧ V.cell? ⟨g', k2, none⟩ = some (.int .i64 zv)) := Lib.hid (fun V hV => by
            have hb := HBv.out.trans (hV.mono HBv.out.size)
            obtain ⟨g1, e1, h1⟩ := own_cell (HP2.out V hb).1 rfl k2 (by omega)
            injection e1 with e1; injection e1 with e1; subst e1
            obtain ⟨g2, e2, h2⟩ := own_cell (HP2.out V hb).2 rfl k2 (by omega)
            injection e2 with e2; injection e2 with e2; subst e2
            exact ⟨h1.trans hat, h2.trans hat⟩)
          clear hkt hzv hat
          go_wp2_with fail
          refine wp_region_held_drew (S := (fun V => Below wr.heap.size wr V)) (by kernel_rfl) (Below.refl _ _).drew (fun hHeld => ?_)
          refine wpAnyH_take (i := 0) (v := ?vv45) rfl (by kernel_rfl) (by kernel_rfl) (by kernel_rfl) (fun _ _ _ h => h) (Or.inl ⟨by rfl, ?hy45⟩) hHeld ?rr45
          case hy45 => (intro w' hSw; obtain ⟨g1, g2⟩ := HS12.out _ hSw; go_simp; try with_reducible rfl)
          try simp only [Act.put, List.setIfInBounds_toArray, List.set_cons_zero, List.set_cons_succ, List.getElem_toArray, List.getElem_cons_succ, List.getElem_cons_zero]
          refine wpAnyH_take (i := 1) (v := ?vv46) rfl (by kernel_rfl) (by kernel_rfl) (by kernel_rfl) (fun _ _ _ h => h) (Or.inl ⟨by rfl, ?hy46⟩) hHeld ?rr46
          case hy46 => (intro w' hSw; obtain ⟨g1, g2⟩ := HS12.out _ hSw; go_simp; try with_reducible rfl)
          try simp only [Act.put, List.setIfInBounds_toArray, List.set_cons_zero, List.set_cons_succ, List.getElem_toArray, List.getElem_cons_succ, List.getElem_cons_zero]
          refine wpAnyH_take (i := 2) (v := ?vv47) rfl (by kernel_rfl) (by kernel_rfl) (by kernel_rfl) (fun _ _ _ h => h) (Or.inl ⟨by rfl, ?hy47⟩) hHeld ?rr47
          case hy47 => (intro w' hSw; obtain ⟨g1, g2⟩ := HS12.out _ hSw; go_simp; try with_reducible rfl)
          try simp only [Act.put, List.setIfInBounds_toArray, List.set_cons_zero, List.set_cons_succ, List.getElem_toArray, List.getElem_cons_succ, List.getElem_cons_zero]
          refine wpAnyH_take (i := 3) (v := ?vv48) rfl (by kernel_rfl) (by kernel_rfl) (by kernel_rfl) (fun _ _ _ h => h) (Or.inl ⟨by rfl, ?hy48⟩) hHeld ?rr48
          case hy48 => (intro w' hSw; obtain ⟨g1, g2⟩ := HS12.out _ hSw; go_simp; try with_reducible rfl)
          try simp only [Act.put, List.setIfInBounds_toArray, List.set_cons_zero, List.set_cons_succ, List.getElem_toArray, List.getElem_cons_succ, List.getElem_cons_zero]
          refine wpAnyH_take (i := 4) (v := ?vv49) rfl (by kernel_rfl) (by kernel_rfl) (by kernel_rfl) (fun _ _ _ h => h) (Or.inl ⟨by rfl, ?hy49⟩) hHeld ?rr49
          case hy49 => (intro w' hSw; obtain ⟨g1, g2⟩ := HS12.out _ hSw; go_simp; try with_reducible rfl)
          try simp only [Act.put, List.setIfInBounds_toArray, List.set_cons_zero, List.set_cons_succ, List.getElem_toArray, List.getElem_cons_succ, List.getElem_cons_zero]
          refine wpAnyH_take (i := 5) (v := ?vv50) rfl (by kernel_rfl) (by kernel_rfl) (by kernel_rfl) (fun _ _ _ h => h) (Or.inl ⟨by rfl, ?hy50⟩) hHeld ?rr50
          case hy50 => (intro w' hSw; obtain ⟨g1, g2⟩ := HS12.out _ hSw; go_simp; try with_reducible rfl)
          try simp only [Act.put, List.setIfInBounds_toArray, List.set_cons_zero, List.set_cons_succ, List.getElem_toArray, List.getElem_cons_succ, List.getElem_cons_zero]
          refine wpAnyH_take (i := 6) (v := ?vv51) rfl (by kernel_rfl) (by kernel_rfl) (by kernel_rfl) (fun _ _ _ h => h) (Or.inl ⟨by rfl, ?hy51⟩) hHeld ?rr51
          case hy51 => (intro w' hSw; obtain ⟨g1, g2⟩ := HS12.out _ hSw; go_simp; try with_reducible rfl)
          try simp only [Act.put, List.setIfInBounds_toArray, List.set_cons_zero, List.set_cons_succ, List.getElem_toArray, List.getElem_cons_succ, List.getElem_cons_zero]
          refine wpAnyH_take (i := 7) (v := ?vv52) rfl (by kernel_rfl) (by kernel_rfl) (by kernel_rfl) (fun _ _ _ h => h) (Or.inl ⟨by rfl, ?hy52⟩) hHeld ?rr52
          case hy52 => (intro w' hSw; obtain ⟨g1, g2⟩ := HS12.out _ hSw; go_simp; try with_reducible rfl)
          try simp only [Act.put, List.setIfInBounds_toArray, List.set_cons_zero, List.set_cons_succ, List.getElem_toArray, List.getElem_cons_succ, List.getElem_cons_zero]
          refine wpAnyH_take (i := 8) (v := ?vv53) rfl (by kernel_rfl) (by kernel_rfl) (by kernel_rfl) (fun _ _ _ h => h) (Or.inl ⟨by rfl, ?hy53⟩) hHeld ?rr53
          case hy53 => (intro w' hSw; obtain ⟨g1, g2⟩ := HS12.out _ hSw; go_simp; try with_reducible rfl)
          try simp only [Act.put, List.setIfInBounds_toArray, List.set_cons_zero, List.set_cons_succ, List.getElem_toArray, List.getElem_cons_succ, List.getElem_cons_zero]
          refine wpAnyH_done (by kernel_rfl) ?_ _
          clear hHeld
          go_wp2
          go_roundw
          case rel => exact ⟨k2 + 1, by omega, by go_num, Lib.hid (by first | exact HBv.out.trans (((Below.refl _ _).drew).mono HBv.out.size) | exact HBv.out.drew | exact HBv.out)⟩
          case measure => simp [intOf]; omega
        · have hlt2 : ¬ (k2 : Int) < (m : Int) := by omega
          go_wp2
          go_ret
          exact ⟨rfl, HV3.out _ HBv.out⟩
end Go.Proofs.Ytbmadhmcnjcdfaa
