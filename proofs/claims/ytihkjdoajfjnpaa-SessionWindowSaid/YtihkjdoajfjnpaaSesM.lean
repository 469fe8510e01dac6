/- Package session: tellHello. -/
import Derived.Test.YtihkjdoajfjnpaaSesL
set_option linter.unusedSimpArgs false
set_option linter.unusedVariables false
namespace Go.Proofs.Ytihkjdoajfjnpaa
open Go.ChangeShapes Go.WideShapes Go.ChangeAt Go.RowKit Go.Base Go.Ses

section
variable {F G : Nat → Prop} {w w1 w' W V : World} {p kb kt : Nat} {s s2 : Ss} {A At : Option Addr} {c ct : Nat} {vs : List SlV} {bm : Nat} {D : DataW Value} {q : Nat → Prop} {l : List EvV} {E : List Ev} {now : Int}
theorem TkX.useH (h : TkX F p s A c vs bm D kb kt At ct l w W) (hh : V.heap[p]? = some (.cells (((sesC s A vs.length c bm).setIfInBounds 11 (.int .i64 (useAt now s.l.hGap))).setIfInBounds 12 (.int .i64 (min (2 * s.l.hGap) 16))) 60 (0, 0))) (hm : Moved (fun j => j = p) W V) :
    TkX F p ⟨s.mine, Ses.useH s.l now⟩ A c vs bm D kb kt At ct l w V := h.own hm (h.ses.set hm (by rw [hh]; rfl) (ok_useH (m := s.mine) (l := s.l) h.ses.ok now) rfl rfl rfl)
theorem TkX.useA (h : TkX F p s A c vs bm D kb kt At ct l w W) (hh : V.heap[p]? = some (.cells (((sesC s A vs.length c bm).setIfInBounds 13 (.int .i64 (useAt now s.l.aGap))).setIfInBounds 14 (.int .i64 (min (2 * s.l.aGap) 16))) 60 (0, 0))) (hm : Moved (fun j => j = p) W V) :
    TkX F p ⟨s.mine, Ses.useA s.l now⟩ A c vs bm D kb kt At ct l w V := h.own hm (h.ses.set hm (by rw [hh]; rfl) (ok_useA (m := s.mine) (l := s.l) h.ses.ok now) rfl rfl rfl)
theorem callH (h : SesX W F p s A c vs bm D) (hn : -9223372036854775808 ≤ now ∧ now ≤ 9223372036854775807) : Calls Try.prog 34 #[.pointer (some ⟨p, 11, none⟩), .int .i64 now] W fun e w' => e = .returned (.tuple #[]) ∧ w'.heap[p]? = some (.cells (((sesC s A vs.length c bm).setIfInBounds 11 (.int .i64 (useAt now s.l.hGap))).setIfInBounds 12 (.int .i64 (min (2 * s.l.hGap) 16))) 60 (0, 0)) ∧ Moved (fun j => j = p) W w' := use_any (k := 11) (cs := sesC s A vs.length c bm) (T := 60) s.l.hAt s.l.hGap now W h.self rfl rfl h.ok.hGap hn
theorem callA (h : SesX W F p s A c vs bm D) (hn : -9223372036854775808 ≤ now ∧ now ≤ 9223372036854775807) : Calls Try.prog 34 #[.pointer (some ⟨p, 13, none⟩), .int .i64 now] W fun e w' => e = .returned (.tuple #[]) ∧ w'.heap[p]? = some (.cells (((sesC s A vs.length c bm).setIfInBounds 13 (.int .i64 (useAt now s.l.aGap))).setIfInBounds 14 (.int .i64 (min (2 * s.l.aGap) 16))) 60 (0, 0)) ∧ Moved (fun j => j = p) W w' := use_any (k := 13) (cs := sesC s A vs.length c bm) (T := 60) s.l.aAt s.l.aGap now W h.self rfl rfl h.ok.aGap hn
theorem tell0 (h : TkX F p s A c vs bm D kb kt At ct l w W) (kd ak : Int) (hl : l.length ≤ 100000) :
    Calls Try.prog 27 #[.agg #[.int .i64 kd, .int .i64 0, .int .i64 0, .int .i64 0, .int .i64 ak, .slice none 0 0], .pointer (some ⟨kb, 0, none⟩), .pointer (some ⟨kt, 0, none⟩)] W
      fun e W' => e = .returned (.tuple #[]) ∧ ∃ A7 c7, TkX F p s A c vs bm D kb kt A7 c7 (l ++ [⟨⟨kd, s.mine, s.l.yours, 0, ak, []⟩, none, 0⟩]) w W' := tell_any h kd 0 ak [] none 0 (ByU.nil _ _) hl
set_option maxHeartbeats 4000000 in
set_option maxRecDepth 20000 in
theorem tellHello_any (h : TkX F p s A c vs bm D kb kt At ct l w W) (hl : l.length ≤ 50000) (hn : -9223372036854775808 ≤ now ∧ now ≤ 9223372036854775807) :
    Calls Try.prog 31 #[.pointer (some ⟨p, 1, none⟩), .int .i64 now, tellV kb kt] W
      fun e W' => e = .returned (.tuple #[]) ∧ TkS F p ⟨s.mine, helloL now s.l⟩ kb kt (l.map (·.e) ++ helloE s.mine now s.l) w W' := by
  have HX := Lib.hid h
  have HN := Lib.hid hn
  have c2 := h.ses.c2
  have c3 := h.ses.c3
  have c11 := h.ses.c11
  have f3 := h.ses.free 3
  have HOv := Lib.hid (over_any (p := p) (k := 11) s.l.hAt s.l.hGap now W c11)
  have HTl := Lib.hid (tell0 h 1 0 (by omega))
  have HOkH : Hid (∀ b, Ok ⟨s.mine, { s.l with helloDue := b }⟩) := Lib.hid (fun b => ok_hello (m := s.mine) (l := s.l) h.ses.ok b)
  obtain ⟨hd, hhd⟩ : ∃ y, y = s.l.helloDue := ⟨_, rfl⟩
  obtain ⟨kn, hkn⟩ : ∃ y, y = s.l.knows := ⟨_, rfl⟩
  obtain ⟨ov, hov⟩ : ∃ y, y = decide (s.l.hAt ≤ now) := ⟨_, rfl⟩
  have HV := Lib.hid (And.intro hhd (And.intro hkn hov))
  rw [← hhd] at c3
  rw [← hkn] at c2
  rw [← hov] at HOv
  clear h hl hhd hkn hov hn c11
  cases kn with
  | true =>
    have HW : Hid (wanting s.l now = false) := Lib.hid (by unfold wanting; rw [← HV.out.2.1]; rfl)
    cases hd with
    | true =>
      go_enter Try.func31, Try.ntmps31
      go_wp2_with (go_at_call 27; refine Calls.mono (by with_reducible exact HTl.out) ?_; rintro e w2 ⟨rfl, A7, c7, hx⟩; have HX2 := Lib.hid hx; clear c2 c3 f3; have c3 := hx.ses.c3; have f3 := hx.ses.free 3; clear hx)
      go_end0
      refine ⟨rfl, _, _, _, _, _, _, _, _, HX2.out.set 3 (.bool false) ⟨s.mine, helloL now s.l⟩ ?_ ?_ ?_ ?_ ?_, ?_⟩
      · unfold helloL; rw [if_neg (by simp [HW.out])]; rfl
      · unfold helloL; rw [if_neg (by simp [HW.out])]; exact HOkH.out false
      · exact (helloL_out now s.l).1
      · exact (helloL_out now s.l).2.2.2.2.2.2.1
      · exact (helloL_out now s.l).2.2.2.2.2.2.2.2
      · unfold helloE; rw [HW.out, ← HV.out.1]; simp
    | false =>
      go_enter Try.func31, Try.ntmps31
      go_wp2
      go_end0
      refine ⟨rfl, _, _, _, _, _, _, _, _, HX.out.set 3 (.bool false) ⟨s.mine, helloL now s.l⟩ ?_ ?_ ?_ ?_ ?_, ?_⟩
      · unfold helloL; rw [if_neg (by simp [HW.out])]; rfl
      · unfold helloL; rw [if_neg (by simp [HW.out])]; exact HOkH.out false
      · exact (helloL_out now s.l).1
      · exact (helloL_out now s.l).2.2.2.2.2.2.1
      · exact (helloL_out now s.l).2.2.2.2.2.2.2.2
      · unfold helloE; rw [HW.out, ← HV.out.1]; simp
  | false =>
    cases ov with
    | true =>
      have HW : Hid (wanting s.l now = true) := Lib.hid (by unfold wanting; rw [← HV.out.2.1, ← HV.out.2.2]; rfl)
      go_enter Try.func31, Try.ntmps31
      go_wp2_with (first
        | (go_at_call 33; refine Calls.mono (by with_reducible exact HOv.out) ?_; rintro e w2 ⟨rfl, rfl⟩)
        | (go_at_call 27; refine Calls.mono (by with_reducible exact HTl.out) ?_; rintro e w2 ⟨rfl, A7, c7, hx⟩; have HX2 := Lib.hid hx; have HU := Lib.hid (callH hx.ses HN.out); clear c2 c3 f3 hx)
        | (go_at_call 34; refine Calls.mono (by with_reducible exact HU.out) ?_; rintro e w3 ⟨rfl, hh, hm⟩; have hx := HX2.out.useH hh hm; have HX3 := Lib.hid hx; have f3 := hx.ses.free 3; have c3 := hx.ses.c3; clear hx hh hm))
      go_end0
      refine ⟨rfl, _, _, _, _, _, _, _, _, HX3.out.set 3 (.bool false) ⟨s.mine, helloL now s.l⟩ ?_ ?_ ?_ ?_ ?_, ?_⟩
      · unfold helloL; rw [if_pos HW.out]; rfl
      · unfold helloL; rw [if_pos HW.out]; exact ok_hello HX3.out.ses.ok false
      · exact (helloL_out now s.l).1
      · exact (helloL_out now s.l).2.2.2.2.2.2.1
      · exact (helloL_out now s.l).2.2.2.2.2.2.2.2
      · unfold helloE; rw [HW.out]; simp
    | false =>
      have HW : Hid (wanting s.l now = false) := Lib.hid (by unfold wanting; rw [← HV.out.2.1, ← HV.out.2.2]; rfl)
      cases hd with
      | true =>
        go_enter Try.func31, Try.ntmps31
        go_wp2_with (first
          | (go_at_call 33; refine Calls.mono (by with_reducible exact HOv.out) ?_; rintro e w2 ⟨rfl, rfl⟩)
          | (go_at_call 27; refine Calls.mono (by with_reducible exact HTl.out) ?_; rintro e w2 ⟨rfl, A7, c7, hx⟩; have HX2 := Lib.hid hx; clear c2 c3 f3; have c3 := hx.ses.c3; have f3 := hx.ses.free 3; clear hx))
        go_end0
        refine ⟨rfl, _, _, _, _, _, _, _, _, HX2.out.set 3 (.bool false) ⟨s.mine, helloL now s.l⟩ ?_ ?_ ?_ ?_ ?_, ?_⟩
        · unfold helloL; rw [if_neg (by simp [HW.out])]; rfl
        · unfold helloL; rw [if_neg (by simp [HW.out])]; exact HOkH.out false
        · exact (helloL_out now s.l).1
        · exact (helloL_out now s.l).2.2.2.2.2.2.1
        · exact (helloL_out now s.l).2.2.2.2.2.2.2.2
        · unfold helloE; rw [HW.out, ← HV.out.1]; simp
      | false =>
        go_enter Try.func31, Try.ntmps31
        go_wp2_with (go_at_call 33; refine Calls.mono (by with_reducible exact HOv.out) ?_; rintro e w2 ⟨rfl, rfl⟩)
        go_end0
        refine ⟨rfl, _, _, _, _, _, _, _, _, HX.out.set 3 (.bool false) ⟨s.mine, helloL now s.l⟩ ?_ ?_ ?_ ?_ ?_, ?_⟩
        · unfold helloL; rw [if_neg (by simp [HW.out])]; rfl
        · unfold helloL; rw [if_neg (by simp [HW.out])]; exact HOkH.out false
        · exact (helloL_out now s.l).1
        · exact (helloL_out now s.l).2.2.2.2.2.2.1
        · exact (helloL_out now s.l).2.2.2.2.2.2.2.2
        · unfold helloE; rw [HW.out, ← HV.out.1]; simp
end
end Go.Proofs.Ytihkjdoajfjnpaa
