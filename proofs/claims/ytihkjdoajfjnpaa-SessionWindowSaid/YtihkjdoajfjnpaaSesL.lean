/- Package session: tellSome. -/
import Derived.Test.YtihkjdoajfjnpaaSesK
set_option linter.unusedSimpArgs false
set_option linter.unusedVariables false
namespace Go.Ses
def sA (s : Ss) (b : Bool) : Ss := { s with l := { s.l with ackDue := b } }
theorem someE_none (m : Int) (l : Link) (fr to : Nat) (h : to ≤ fr) : someE m l fr to = [] := by unfold someE; rw [show to - fr = 0 by omega]; rfl
theorem someE_snoc (m : Int) (l : Link) (fr i : Nat) (h : fr ≤ i) : someE m l fr (i + 1) = someE m l fr i ++ [dataE m l i] := by
  unfold someE
  rw [show i + 1 - fr = (i - fr) + 1 by omega, List.range'_concat, List.map_append]
  simp; congr 1; omega
theorem someE_len (m : Int) (l : Link) (fr to : Nat) : (someE m l fr to).length = to - fr := by unfold someE; simp
end Go.Ses
namespace Go.Proofs.Ytihkjdoajfjnpaa
open Go.ChangeShapes Go.WideShapes Go.ChangeAt Go.RowKit Go.Base Go.Ses

section
variable {F G : Nat → Prop} {w w1 w' W V : World} {p kb kt : Nat} {s s2 : Ss} {A At : Option Addr} {c ct : Nat} {vs : List SlV} {bm : Nat} {D : DataW Value} {q : Nat → Prop} {l : List EvV} {E : List Ev}
theorem out_at (h : SesX W F p s A c vs bm D) {i : Nat} (hi : i < vs.length) : ∃ g xA xn xc, A = some ⟨g, 0, none⟩ ∧ W.cell? ⟨g, i, none⟩ = some (.slice xA xn xc) ∧ xn = (s.l.out.getD i []).length ∧ ByU W xA (s.l.out.getD i []) := by
  obtain ⟨g, e, hc⟩ := own_cell h.row rfl i (by omega)
  have hx : (vs.map SlV.val)[i]? = some vs[i].val := by rw [List.getElem?_map, List.getElem?_eq_getElem hi]; rfl
  have ho : s.l.out.getD i [] = vs[i].b := by rw [← h.outs, List.getD_eq_getElem?_getD, List.getElem?_map, List.getElem?_eq_getElem hi]; rfl
  rw [ho]
  exact ⟨g, vs[i].A, vs[i].b.length, vs[i].c, e, by rw [hc, hx]; rfl, rfl, h.bod _ (List.getElem_mem _)⟩
theorem out_same {g : Nat} {v : Value} {F' : Nat → Prop} (h : SesX W F p s (some ⟨g, 0, none⟩) c vs bm D) (h' : SesX V F' p s2 (some ⟨g, 0, none⟩) c vs bm D) {i : Nat} (hi : i < vs.length) (hc : W.cell? ⟨g, i, none⟩ = some v) : V.cell? ⟨g, i, none⟩ = some v := by
  obtain ⟨g1, e1, h1⟩ := own_cell h.row rfl i (by omega)
  obtain ⟨g2, e2, h2⟩ := own_cell h'.row rfl i (by omega)
  injection e1 with e1; injection e1 with e1; subst e1
  injection e2 with e2; injection e2 with e2; subst e2
  rw [h2, ← h1]; exact hc
set_option maxHeartbeats 4000000 in
set_option maxRecDepth 20000 in
theorem tellSome_any (h : TkS F p s kb kt E w W) (fr to : Nat) (hto : to ≤ s.l.out.length) (hE : E.length ≤ 50000) :
    Calls Try.prog 35 #[.pointer (some ⟨p, 1, none⟩), .int .i64 (fr : Int), .int .i64 (to : Int), tellV kb kt] W
      fun e W' => e = .returned (.tuple #[]) ∧ TkS F p (sA s (s.l.ackDue && decide (to ≤ fr))) kb kt (E ++ someE s.mine s.l fr to) w W' := by
  have hfew : to ≤ 64 := by
    obtain ⟨A, c, vs, bm, D, At, ct, l, h, e⟩ := h
    have := h.ses.ok.few; omega
  have H0 : Hid (TkS F p (sA s (s.l.ackDue && decide (fr ≤ fr))) kb kt (E ++ someE s.mine s.l fr fr) w W) := Lib.hid (by
    rw [decide_eq_true (Nat.le_refl fr), Bool.and_true, someE_none _ _ _ _ (Nat.le_refl fr), List.append_nil]; exact h)
  have HTo := Lib.hid hto
  clear h hto
  go_enter Try.func35, Try.ntmps35
  go_wp2
  go_loopw [8] (fun iv wr => ∃ i : Nat, iv = .int .i64 (i : Int) ∧ Hid ((fr ≤ i ∧ (i ≤ to ∨ i = fr)) ∧ TkS F p (sA s (s.l.ackDue && decide (i ≤ fr))) kb kt (E ++ someE s.mine s.l fr i) w wr)) (fun iv _ => to - (intOf iv).toNat)
  case atStart => exact ⟨fr, rfl, Lib.hid ⟨⟨Nat.le_refl _, .inr rfl⟩, H0.out⟩⟩
  case round =>
    obtain ⟨i, rfl, HR⟩ := hrel
    by_cases hi : i < to
    · have hi' : (i : Int) < (to : Int) := by omega
      obtain ⟨A, c, vs, bm, D, At, ct, l, hX, hl⟩ := HR.out.2
      have hlen : l.length ≤ 60000 := by
        have := congrArg List.length hl
        rw [List.length_map, List.length_append, someE_len] at this
        omega
      have hiv : i < vs.length := by have h2 : vs.length = s.l.out.length := hX.ses.len; have := HTo.out; omega
      obtain ⟨g, xA, xn, xc, rfl, hc, hxn, hxb⟩ := out_at hX.ses hiv
      replace hxn : xn = (s.l.out.getD i []).length := hxn
      replace hxb : ByU wr xA (s.l.out.getD i []) := hxb
      obtain ⟨n, hn⟩ : ∃ n, n = vs.length := ⟨_, rfl⟩
      have r5 : wr.cell? ⟨p, 5, none⟩ = some (.int .i64 s.l.gone) := hX.ses.c5
      have r9 : wr.cell? ⟨p, 9, none⟩ = some (.int .i64 s.l.wanted) := hX.ses.c9
      have r6 : wr.cell? ⟨p, 6, none⟩ = some (.slice (some ⟨g, 0, none⟩) n c) := by rw [hn]; exact hX.ses.c6
      have hg := hX.ses.ok.gone
      have hw := hX.ses.ok.wanted
      have hgi : 0 ≤ s.l.gone ∧ s.l.gone + (i : Int) + 1 ≤ 2147483647 := by have h2 : 0 ≤ s.l.gone ∧ s.l.gone + (s.l.out.length : Int) ≤ 2147483647 := hg; have := HTo.out; omega
      have hwi : 1 ≤ s.l.wanted ∧ s.l.wanted ≤ 2147483648 := hw
      have hin : (i : Int) < (n : Int) := by omega
      have hi0 : (0 : Int) ≤ (i : Int) := by omega
      have HX := Lib.hid hX
      have HXb := Lib.hid hxb
      have HXn := Lib.hid hxn
      have HL := Lib.hid hl
      have HNn := Lib.hid hn
      obtain ⟨go, hgo⟩ : ∃ go, go = s.l.gone := ⟨_, rfl⟩
      obtain ⟨wn, hwn⟩ : ∃ wn, wn = s.l.wanted := ⟨_, rfl⟩
      have HGo := Lib.hid (And.intro hgo hwn)
      rw [← hgo] at r5 hgi
      rw [← hwn] at r9 hwi
      have k1 : IntKind.i64.wrap (go + 1) = go + 1 := by rw [IntKind.wrap_i64]; omega
      have k2 : IntKind.i64.wrap (go + 1 + (i : Int)) = go + 1 + (i : Int) := by rw [IntKind.wrap_i64]; omega
      have k3 : IntKind.i64.wrap (wn - 1) = wn - 1 := by rw [IntKind.wrap_i64]; omega
      have k4 : IntKind.i64.wrap ((i : Int) + 1) = (i : Int) + 1 := by rw [IntKind.wrap_i64]; omega
      have hsmall : xn ≤ 32768 := by
        rw [hxn]
        have hm := hX.ses.ok.small (s.l.out.getD i []) (by
          show _ ∈ s.l.out
          have := HTo.out
          rw [List.getD_eq_getElem?_getD, List.getElem?_eq_getElem (by omega)]; exact List.getElem_mem _)
        exact hm
      clear hX hl hxb hxn hn hg hw hgo hwn hiv
      go_wp2_with fail
      refine wp_region_held_drew (S := (fun V => V.cell? ⟨p, 5, none⟩ = some (.int .i64 go) ∧ V.cell? ⟨p, 9, none⟩ = some (.int .i64 wn) ∧ V.cell? ⟨p, 6, none⟩ = some (.slice (some ⟨g, 0, none⟩) n c) ∧ V.cell? ⟨g, i, none⟩ = some (.slice xA xn xc))) (by kernel_rfl) ⟨r5, r9, r6, hc⟩ (fun hHeld => ?_)
      refine wpAnyH_take (i := 0) (v := ?vv1) rfl (by kernel_rfl) (by kernel_rfl) (by kernel_rfl) (fun _ _ _ h => h) (Or.inl ⟨by rfl, ?hy1⟩) hHeld ?rr1
      case hy1 => (intro w' hSw; obtain ⟨s0, s1, s2, s3⟩ := hSw; go_simp; try with_reducible rfl)
      try simp only [Act.put, List.setIfInBounds_toArray, List.set_cons_zero, List.set_cons_succ, List.getElem_toArray, List.getElem_cons_succ, List.getElem_cons_zero]
      refine wpAnyH_take (i := 1) (v := ?vv2) rfl (by kernel_rfl) (by kernel_rfl) (by kernel_rfl) (fun _ _ _ h => h) (Or.inl ⟨by rfl, ?hy2⟩) hHeld ?rr2
      case hy2 => (intro w' hSw; obtain ⟨s0, s1, s2, s3⟩ := hSw; go_simp; try with_reducible rfl)
      try simp only [Act.put, List.setIfInBounds_toArray, List.set_cons_zero, List.set_cons_succ, List.getElem_toArray, List.getElem_cons_succ, List.getElem_cons_zero]
      refine wpAnyH_take (i := 2) (v := ?vv3) rfl (by kernel_rfl) (by kernel_rfl) (by kernel_rfl) (fun _ _ _ h => h) (Or.inl ⟨by rfl, ?hy3⟩) hHeld ?rr3
      case hy3 => (intro w' hSw; obtain ⟨s0, s1, s2, s3⟩ := hSw; go_simp; try with_reducible rfl)
      try simp only [Act.put, List.setIfInBounds_toArray, List.set_cons_zero, List.set_cons_succ, List.getElem_toArray, List.getElem_cons_succ, List.getElem_cons_zero]
      refine wpAnyH_take (i := 3) (v := ?vv4) rfl (by kernel_rfl) (by kernel_rfl) (by kernel_rfl) (fun _ _ _ h => h) (Or.inl ⟨by rfl, ?hy4⟩) hHeld ?rr4
      case hy4 => (intro w' hSw; obtain ⟨s0, s1, s2, s3⟩ := hSw; go_simp; try with_reducible rfl)
      try simp only [Act.put, List.setIfInBounds_toArray, List.set_cons_zero, List.set_cons_succ, List.getElem_toArray, List.getElem_cons_succ, List.getElem_cons_zero]
      refine wpAnyH_take (i := 4) (v := ?vv5) rfl (by kernel_rfl) (by kernel_rfl) (by kernel_rfl) (fun _ _ _ h => h) (Or.inl ⟨by rfl, ?hy5⟩) hHeld ?rr5
      case hy5 => (intro w' hSw; obtain ⟨s0, s1, s2, s3⟩ := hSw; go_simp; try with_reducible rfl)
      try simp only [Act.put, List.setIfInBounds_toArray, List.set_cons_zero, List.set_cons_succ, List.getElem_toArray, List.getElem_cons_succ, List.getElem_cons_zero]
      refine wpAnyH_take (i := 5) (v := ?vv6) rfl (by kernel_rfl) (by kernel_rfl) (by kernel_rfl) (fun _ _ _ h => h) (Or.inl ⟨by rfl, ?hy6⟩) hHeld ?rr6
      case hy6 => (intro w' hSw; obtain ⟨s0, s1, s2, s3⟩ := hSw; go_simp; try with_reducible rfl)
      try simp only [Act.put, List.setIfInBounds_toArray, List.set_cons_zero, List.set_cons_succ, List.getElem_toArray, List.getElem_cons_succ, List.getElem_cons_zero]
      refine wpAnyH_take (i := 6) (v := ?vv7) rfl (by kernel_rfl) (by kernel_rfl) (by kernel_rfl) (fun _ _ _ h => h) (Or.inl ⟨by rfl, ?hy7⟩) hHeld ?rr7
      case hy7 => (intro w' hSw; obtain ⟨s0, s1, s2, s3⟩ := hSw; go_simp; try with_reducible rfl)
      try simp only [Act.put, List.setIfInBounds_toArray, List.set_cons_zero, List.set_cons_succ, List.getElem_toArray, List.getElem_cons_succ, List.getElem_cons_zero]
      refine wpAnyH_take (i := 7) (v := ?vv8) rfl (by kernel_rfl) (by kernel_rfl) (by kernel_rfl) (fun _ _ _ h => h) (Or.inl ⟨by rfl, ?hy8⟩) hHeld ?rr8
      case hy8 => (intro w' hSw; obtain ⟨s0, s1, s2, s3⟩ := hSw; go_simp; try with_reducible rfl)
      try simp only [Act.put, List.setIfInBounds_toArray, List.set_cons_zero, List.set_cons_succ, List.getElem_toArray, List.getElem_cons_succ, List.getElem_cons_zero]
      refine wpAnyH_take (i := 8) (v := ?vv9) rfl (by kernel_rfl) (by kernel_rfl) (by kernel_rfl) (fun _ _ _ h => h) (Or.inl ⟨by rfl, ?hy9⟩) hHeld ?rr9
      case hy9 => (intro w' hSw; obtain ⟨s0, s1, s2, s3⟩ := hSw; go_simp; try with_reducible rfl)
      try simp only [Act.put, List.setIfInBounds_toArray, List.set_cons_zero, List.set_cons_succ, List.getElem_toArray, List.getElem_cons_succ, List.getElem_cons_zero]
      refine wpAnyH_take (i := 9) (v := ?vv10) rfl (by kernel_rfl) (by kernel_rfl) (by kernel_rfl) (fun _ _ _ h => h) (Or.inl ⟨by rfl, ?hy10⟩) hHeld ?rr10
      case hy10 => (intro w' hSw; obtain ⟨s0, s1, s2, s3⟩ := hSw; go_simp; try with_reducible rfl)
      try simp only [Act.put, List.setIfInBounds_toArray, List.set_cons_zero, List.set_cons_succ, List.getElem_toArray, List.getElem_cons_succ, List.getElem_cons_zero]
      refine wpAnyH_take (i := 10) (v := ?vv11) rfl (by kernel_rfl) (by kernel_rfl) (by kernel_rfl) (fun _ _ _ h => h) (Or.inl ⟨by rfl, ?hy11⟩) hHeld ?rr11
      case hy11 => (intro w' hSw; obtain ⟨s0, s1, s2, s3⟩ := hSw; go_simp; try with_reducible rfl)
      try simp only [Act.put, List.setIfInBounds_toArray, List.set_cons_zero, List.set_cons_succ, List.getElem_toArray, List.getElem_cons_succ, List.getElem_cons_zero]
      refine wpAnyH_take (i := 11) (v := ?vv12) rfl (by kernel_rfl) (by kernel_rfl) (by kernel_rfl) (fun _ _ _ h => h) (Or.inl ⟨by rfl, ?hy12⟩) hHeld ?rr12
      case hy12 => (intro w' hSw; obtain ⟨s0, s1, s2, s3⟩ := hSw; go_simp; try with_reducible rfl)
      try simp only [Act.put, List.setIfInBounds_toArray, List.set_cons_zero, List.set_cons_succ, List.getElem_toArray, List.getElem_cons_succ, List.getElem_cons_zero]
      refine wpAnyH_take (i := 12) (v := ?vv13) rfl (by kernel_rfl) (by kernel_rfl) (by kernel_rfl) (fun _ _ _ h => h) (Or.inl ⟨by rfl, ?hy13⟩) hHeld ?rr13
      case hy13 => (intro w' hSw; obtain ⟨s0, s1, s2, s3⟩ := hSw; go_simp; try with_reducible rfl)
      try simp only [Act.put, List.setIfInBounds_toArray, List.set_cons_zero, List.set_cons_succ, List.getElem_toArray, List.getElem_cons_succ, List.getElem_cons_zero]
      refine wpAnyH_take (i := 13) (v := ?vv14) rfl (by kernel_rfl) (by kernel_rfl) (by kernel_rfl) (fun _ _ _ h => h) (Or.inl ⟨by rfl, ?hy14⟩) hHeld ?rr14
      case hy14 => (intro w' hSw; obtain ⟨s0, s1, s2, s3⟩ := hSw; go_simp; try with_reducible rfl)
      try simp only [Act.put, List.setIfInBounds_toArray, List.set_cons_zero, List.set_cons_succ, List.getElem_toArray, List.getElem_cons_succ, List.getElem_cons_zero]
      refine wpAnyH_take (i := 14) (v := ?vv15) rfl (by kernel_rfl) (by kernel_rfl) (by kernel_rfl) (fun _ _ _ h => h) (Or.inl ⟨by rfl, ?hy15⟩) hHeld ?rr15
      case hy15 => (intro w' hSw; obtain ⟨s0, s1, s2, s3⟩ := hSw; go_simp; try with_reducible rfl)
      try simp only [Act.put, List.setIfInBounds_toArray, List.set_cons_zero, List.set_cons_succ, List.getElem_toArray, List.getElem_cons_succ, List.getElem_cons_zero]
      refine wpAnyH_take (i := 15) (v := ?vv16) rfl (by kernel_rfl) (by kernel_rfl) (by kernel_rfl) (fun _ _ _ h => h) (Or.inl ⟨by rfl, ?hy16⟩) hHeld ?rr16
      case hy16 => (intro w' hSw; obtain ⟨s0, s1, s2, s3⟩ := hSw; go_simp; try with_reducible rfl)
      try simp only [Act.put, List.setIfInBounds_toArray, List.set_cons_zero, List.set_cons_succ, List.getElem_toArray, List.getElem_cons_succ, List.getElem_cons_zero]
      refine wpAnyH_take (i := 16) (v := ?vv17) rfl (by kernel_rfl) (by kernel_rfl) (by kernel_rfl) (fun _ _ _ h => h) (Or.inl ⟨by rfl, ?hy17⟩) hHeld ?rr17
      case hy17 => (intro w' hSw; obtain ⟨s0, s1, s2, s3⟩ := hSw; go_simp; try with_reducible rfl)
      try simp only [Act.put, List.setIfInBounds_toArray, List.set_cons_zero, List.set_cons_succ, List.getElem_toArray, List.getElem_cons_succ, List.getElem_cons_zero]
      refine wpAnyH_take (i := 17) (v := ?vv18) rfl (by kernel_rfl) (by kernel_rfl) (by kernel_rfl) (fun _ _ _ h => h) (Or.inl ⟨by rfl, ?hy18⟩) hHeld ?rr18
      case hy18 => (intro w' hSw; obtain ⟨s0, s1, s2, s3⟩ := hSw; go_simp; try with_reducible rfl)
      try simp only [Act.put, List.setIfInBounds_toArray, List.set_cons_zero, List.set_cons_succ, List.getElem_toArray, List.getElem_cons_succ, List.getElem_cons_zero]
      refine wpAnyH_take (i := 18) (v := ?vv19) rfl (by kernel_rfl) (by kernel_rfl) (by kernel_rfl) (fun _ _ _ h => h) (Or.inl ⟨by rfl, ?hy19⟩) hHeld ?rr19
      case hy19 => (intro w' hSw; obtain ⟨s0, s1, s2, s3⟩ := hSw; go_simp; try with_reducible rfl)
      try simp only [Act.put, List.setIfInBounds_toArray, List.set_cons_zero, List.set_cons_succ, List.getElem_toArray, List.getElem_cons_succ, List.getElem_cons_zero]
      refine wpAnyH_take (i := 19) (v := ?vv20) rfl (by kernel_rfl) (by kernel_rfl) (by kernel_rfl) (fun _ _ _ h => h) (Or.inl ⟨by rfl, ?hy20⟩) hHeld ?rr20
      case hy20 => (intro w' hSw; obtain ⟨s0, s1, s2, s3⟩ := hSw; go_simp; try with_reducible rfl)
      try simp only [Act.put, List.setIfInBounds_toArray, List.set_cons_zero, List.set_cons_succ, List.getElem_toArray, List.getElem_cons_succ, List.getElem_cons_zero]
      refine wpAnyH_ready (rs := [20]) (by kernel_rfl) (by simp) ?_
      refine AllReadyH.cons rfl (fun K hK => ?_) AllReadyH.nil
      try rw [if_pos (by rfl)]
      go_simp
      go_at_call 25
      refine Calls.mono (by have hcl := clone_any xA (s.l.out.getD i []) xc wr.drew ((HXb.out.later (Below.refl _ _).drew).byt) (by rw [← HXn.out]; omega); rw [← HXn.out] at hcl; exact hcl) ?_
      rintro e w3 ⟨A3, c3, he3, hby3, hb3, hl3, hc31, hc32, hown3⟩
      have HO3 := Lib.hid (own_byu hown3)
      rw [← HXn.out] at he3
      subst he3
      have HB3 : Hid (Below wr.heap.size wr w3) := Lib.hid ((Below.refl _ _).drew.trans hb3)
      have HX3 := Lib.hid (HX.out.later HB3.out)
      have t5 : w3.cell? ⟨p, 5, none⟩ = some (.int .i64 go) := cell_later HB3.out r5
      have t9 : w3.cell? ⟨p, 9, none⟩ = some (.int .i64 wn) := cell_later HB3.out r9
      have t6 : w3.cell? ⟨p, 6, none⟩ = some (.slice (some ⟨g, 0, none⟩) n c) := cell_later HB3.out r6
      have tc : w3.cell? ⟨g, i, none⟩ = some (.slice xA xn xc) := cell_later HB3.out hc
      clear hby3 hb3 hl3 hc31 hc32 hown3
      go_wp2_with fail
      refine hK.out _ _ ⟨t5, t9, t6, tc⟩ (fun hHeld2 => ?_)
      clear hK K hHeld
      have hHeld := hHeld2
      clear hHeld2
      try simp only [Act.put, List.setIfInBounds_toArray, List.set_cons_zero, List.set_cons_succ, List.getElem_toArray, List.getElem_cons_succ, List.getElem_cons_zero]
      refine wpAnyH_take (i := 21) (v := ?vv21) rfl (by kernel_rfl) (by kernel_rfl) (by kernel_rfl) (fun _ _ _ h => h) (Or.inl ⟨by rfl, ?hy21⟩) hHeld ?rr21
      case hy21 => (intro w' hSw; obtain ⟨s0, s1, s2, s3⟩ := hSw; go_simp; try with_reducible rfl)
      try simp only [Act.put, List.setIfInBounds_toArray, List.set_cons_zero, List.set_cons_succ, List.getElem_toArray, List.getElem_cons_succ, List.getElem_cons_zero]
      refine wpAnyH_ready (rs := [22]) (by kernel_rfl) (by simp) ?_
      refine AllReadyH.cons rfl (fun K hK => ?_) AllReadyH.nil
      try rw [if_pos (by rfl)]
      go_simp
      go_at_call 27
      refine Calls.mono (by have htl := tell_any HX3.out 2 (go + 1 + (i : Int)) (wn - 1) (s.l.out.getD i []) A3 c3 HO3.out (by omega); rw [← HXn.out] at htl; exact htl) ?_
      rintro e w5 ⟨rfl, A7, c7, hx7⟩
      have HX7 := Lib.hid hx7
      have u5 : w5.cell? ⟨p, 5, none⟩ = some (.int .i64 go) := by rw [HGo.out.1]; exact hx7.ses.c5
      have u9 : w5.cell? ⟨p, 9, none⟩ = some (.int .i64 wn) := by rw [HGo.out.2]; exact hx7.ses.c9
      have u6 : w5.cell? ⟨p, 6, none⟩ = some (.slice (some ⟨g, 0, none⟩) n c) := by rw [HNn.out]; exact hx7.ses.c6
      have v4 := hx7.ses.c4
      have f4 := hx7.ses.free 4
      have HEnd : Hid (TkS F p (sA s (s.l.ackDue && decide (i + 1 ≤ fr))) kb kt (E ++ someE s.mine s.l fr (i + 1)) w (w5.setCell ⟨p, 4, none⟩ (.bool false))) := Lib.hid (by
        have hfi := HR.out.1.1
        rw [decide_eq_false (show ¬ i + 1 ≤ fr by omega), Bool.and_false, someE_snoc _ _ _ _ hfi, ← List.append_assoc]
        refine ⟨_, _, _, _, _, _, _, _, hx7.set 4 (.bool false) (sA s false) rfl (ok_ack (m := s.mine) (l := s.l) (by have := ok_ack (m := s.mine) hx7.ses.ok s.l.ackDue; exact this) false) rfl rfl rfl, ?_⟩
        rw [List.map_append, HL.out, HGo.out.1, HGo.out.2]
        rfl)
      have uci : w5.cell? ⟨g, i, none⟩ = some (.slice xA xn xc) := out_same HX3.out.ses hx7.ses (by have := HNn.out; omega) tc
      clear hx7
      go_wp2_with fail
      refine hK.out _ _ ⟨u5, u9, u6, uci⟩ (fun hHeld2 => ?_)
      clear hK K hHeld
      have hHeld := hHeld2
      clear hHeld2
      try simp only [Act.put, List.setIfInBounds_toArray, List.set_cons_zero, List.set_cons_succ, List.getElem_toArray, List.getElem_cons_succ, List.getElem_cons_zero]
      refine wpAnyH_done (by kernel_rfl) ?_ _
      clear hHeld
      clear t5 t9 t6 tc u5 u9 u6 uci r5 r9 r6 hc
      go_wp2
      go_roundw
      case rel =>
        refine ⟨i + 1, by go_num, Lib.hid ⟨⟨by have := HR.out.1; omega, .inl (by omega)⟩, ?_⟩⟩
        exact HEnd.out
      case measure => simp [intOf]; omega
    · have hi' : ¬ (i : Int) < (to : Int) := by omega
      have HI : Hid ((to ≤ fr ↔ i ≤ fr) ∧ someE s.mine s.l fr i = someE s.mine s.l fr to) := Lib.hid (by
        have h1 := HR.out.1
        refine ⟨by omega, ?_⟩
        rcases h1.2 with h2 | h2
        · rw [show i = to by omega]
        · subst h2; rw [someE_none _ _ _ _ (Nat.le_refl _), someE_none _ _ _ _ (by omega)])
      go_wp2
      go_end0
      refine ⟨rfl, ?_⟩
      have h2 := HR.out.2
      rw [HI.out.2] at h2
      have e : decide (to ≤ fr) = decide (i ≤ fr) := by rw [Bool.eq_iff_iff]; simp [HI.out.1]
      rw [e]; exact h2
end
end Go.Proofs.Ytihkjdoajfjnpaa
