/- Package session: tellAll, Tick. -/
import Derived.Test.YtihkjdoajfjnpaaSesN
set_option linter.unusedSimpArgs false
set_option linter.unusedVariables false
namespace Go.Proofs.Ytihkjdoajfjnpaa
open Go.ChangeShapes Go.WideShapes Go.ChangeAt Go.RowKit Go.Base Go.Ses

section
variable {F G : Nat → Prop} {w w1 w' W V : World} {p kb kt : Nat} {s s2 : Ss} {A At : Option Addr} {c ct : Nat} {vs : List SlV} {bm : Nat} {D : DataW Value} {q : Nat → Prop} {l : List EvV} {E : List Ev} {now : Int}
theorem helloE_len (m now : Int) (l : Link) : (helloE m now l).length ≤ 1 := by unfold helloE; split <;> simp
theorem outE_len (m now : Int) (l : Link) : (outE m now l).length ≤ 8 + l.out.length := by
  unfold outE againE
  split
  · rw [List.length_append, someE_len, someE_len]; omega
  · rw [List.nil_append, someE_len]; omega
def AllPost (F : Nat → Prop) (p : Nat) (s : Ss) (kb kt : Nat) (E : List Ev) (now : Int) (w : World) (e : Ending) (W' : World) : Prop := e = .returned (.tuple #[]) ∧ TkS F p (tickS s now) kb kt (E ++ tickE s now) w W'
set_option maxHeartbeats 4000000 in
set_option maxRecDepth 20000 in
theorem tellAll_any (h : TkX F p s A c vs bm D kb kt At ct l w W) (hl : l.length ≤ 30000) (hn : -9223372036854775808 ≤ now ∧ now ≤ 9223372036854775807) :
    Calls Try.prog 26 #[.pointer (some ⟨p, 1, none⟩), .int .i64 now, tellV kb kt] W (AllPost F p s kb kt (l.map (·.e)) now w) := by
  have HN := Lib.hid hn
  have HH := Lib.hid (tellHello_any h (by omega) hn)
  have HLn : Hid ((l.map (·.e)).length ≤ 30000) := Lib.hid (by rw [List.length_map]; exact hl)
  have HFew : Hid (s.l.out.length ≤ 64) := Lib.hid h.ses.ok.few
  obtain ⟨E, hE⟩ : ∃ E, E = l.map (·.e) := ⟨_, rfl⟩
  obtain ⟨kn, hkn⟩ : ∃ b, b = s.l.knows := ⟨_, rfl⟩
  have HKn : Hid (EqB (helloL now s.l).knows kn) := Lib.hid ((helloL_out now s.l).2.2.2.2.2.2.2.1.trans hkn.symm)
  obtain ⟨ad, had⟩ : ∃ b, b = (outL s.mine now (helloL now s.l)).ackDue := ⟨_, rfl⟩
  have HAd : Hid (EqB (outL s.mine now (helloL now s.l)).ackDue ad) := Lib.hid had.symm
  rw [← hE] at HH HLn ⊢
  clear h hl hn hE hkn had
  cases kn with
  | false =>
    go_enter Try.func26, Try.ntmps26
    go_wp2_with (go_at_call 31; refine Calls.mono (by with_reducible exact HH.out) ?_; rintro e w2 ⟨rfl, hS⟩; have HS := Lib.hid hS; have c2 : w2.cell? ⟨p, 2, none⟩ = some (.bool false) := (by obtain ⟨B2, d2, us2, bn2, D2, At2, ct2, l2, hX2, hl2⟩ := hS; have := hX2.ses.c2; rwa [show (helloL now s.l).knows = false from HKn.out] at this); clear hS)
    go_end0
    refine ⟨rfl, ?_⟩
    unfold tickS tickE
    rw [if_neg (by rw [show (helloL now s.l).knows = false from HKn.out]; simp), if_neg (by rw [show (helloL now s.l).knows = false from HKn.out]; simp), List.append_nil]
    exact HS.out
  | true =>
    have HT : Hid (tickS s now = ⟨s.mine, { outL s.mine now (helloL now s.l) with ackDue := false }⟩ ∧ tickE s now = helloE s.mine now s.l ++ (outE s.mine now (helloL now s.l) ++ ackE s.mine (outL s.mine now (helloL now s.l)))) := Lib.hid (by
      unfold tickS tickE
      rw [if_pos (show (helloL now s.l).knows = true from HKn.out), if_pos (show (helloL now s.l).knows = true from HKn.out)]
      exact ⟨rfl, rfl⟩)
    cases ad with
    | false =>
      go_enter Try.func26, Try.ntmps26
      go_wp2_with (first
        | (go_at_call 31; refine Calls.mono (by with_reducible exact HH.out) ?_; rintro e w2 ⟨rfl, hS⟩; obtain ⟨B2, d2, us2, bn2, D2, At2, ct2, l2, hX2, hl2⟩ := hS; have c2 : w2.cell? ⟨p, 2, none⟩ = some (.bool true) := (by have := hX2.ses.c2; rwa [show (helloL now s.l).knows = true from HKn.out] at this); have HO := Lib.hid (tellOut_any hX2 (by have h1 := congrArg List.length hl2; rw [List.length_map, List.length_append] at h1; have h2 := helloE_len s.mine now s.l; have := HLn.out; omega) HN.out); have HL2 := Lib.hid hl2; clear hX2 hl2)
        | (go_at_call 32; refine Calls.mono (by with_reducible exact HO.out) ?_; rintro e w3 ⟨rfl, hS⟩; obtain ⟨B3, d3, us3, bn3, D3, At3, ct3, l3, hX3, hl3⟩ := hS; have HX3 := Lib.hid hX3; have HL3 := Lib.hid hl3; clear c2; have c4 : w3.cell? ⟨p, 4, none⟩ = some (.bool false) := (by have := hX3.ses.c4; rwa [show (outL s.mine now (helloL now s.l)).ackDue = false from HAd.out] at this); have f4 := hX3.ses.free 4; clear hX3 hl3))
      go_end0
      refine ⟨rfl, ?_⟩
      rw [HT.out.1, HT.out.2]
      refine ⟨_, _, _, _, _, _, _, _, HX3.out.set 4 (.bool false) _ rfl (ok_ack HX3.out.ses.ok false) rfl rfl rfl, ?_⟩
      rw [HL3.out, HL2.out]
      unfold ackE
      rw [if_neg (by rw [show (outL s.mine now (helloL now s.l)).ackDue = false from HAd.out]; simp), List.append_nil, List.append_assoc]
    | true =>
      go_enter Try.func26, Try.ntmps26
      go_wp2_with (first
        | (go_at_call 31; refine Calls.mono (by with_reducible exact HH.out) ?_; rintro e w2 ⟨rfl, hS⟩; obtain ⟨B2, d2, us2, bn2, D2, At2, ct2, l2, hX2, hl2⟩ := hS; have c2 : w2.cell? ⟨p, 2, none⟩ = some (.bool true) := (by have := hX2.ses.c2; rwa [show (helloL now s.l).knows = true from HKn.out] at this); have HO := Lib.hid (tellOut_any hX2 (by have h1 := congrArg List.length hl2; rw [List.length_map, List.length_append] at h1; have h2 := helloE_len s.mine now s.l; have := HLn.out; omega) HN.out); have HL2 := Lib.hid hl2; have HLl : Hid (l2.length ≤ 30001) := Lib.hid (by have h1 := congrArg List.length hl2; rw [List.length_map, List.length_append] at h1; have h2 := helloE_len s.mine now s.l; have := HLn.out; omega); clear hX2 hl2)
        | (go_at_call 32; refine Calls.mono (by with_reducible exact HO.out) ?_; rintro e w3 ⟨rfl, hS⟩; obtain ⟨B3, d3, us3, bn3, D3, At3, ct3, l3, hX3, hl3⟩ := hS; have HX3 := Lib.hid hX3; have HL3 := Lib.hid hl3; clear c2; have c4 : w3.cell? ⟨p, 4, none⟩ = some (.bool true) := (by have := hX3.ses.c4; rwa [show (outL s.mine now (helloL now s.l)).ackDue = true from HAd.out] at this); have c9 : w3.cell? ⟨p, 9, none⟩ = some (.int .i64 (outL s.mine now (helloL now s.l)).wanted) := hX3.ses.c9; have HTl := Lib.hid (tell0 hX3 3 ((outL s.mine now (helloL now s.l)).wanted - 1) (by have h1 : l3.length = l2.length + (outE s.mine now (helloL now s.l)).length := (by have h0 := congrArg List.length hl3; rw [List.length_map, List.length_append, List.length_map] at h0; exact h0); have h2 := outE_len s.mine now (helloL now s.l); have h3 := HLl.out; rw [(helloL_out now s.l).1] at h2; have := HFew.out; omega)); have hw : 1 ≤ (outL s.mine now (helloL now s.l)).wanted ∧ (outL s.mine now (helloL now s.l)).wanted ≤ 2147483648 := hX3.ses.ok.wanted; have kw : IntKind.i64.wrap ((outL s.mine now (helloL now s.l)).wanted - 1) = (outL s.mine now (helloL now s.l)).wanted - 1 := (by rw [IntKind.wrap_i64]; omega); clear hX3 hl3)
        | (go_at_call 27; refine Calls.mono (by with_reducible exact HTl.out) ?_; rintro e w4 ⟨rfl, A7, c7, hx⟩; have HX4 := Lib.hid hx; clear c4 c9; have c4 := hx.ses.c4; have f4 := hx.ses.free 4; clear hx))
      go_end0
      refine ⟨rfl, ?_⟩
      rw [HT.out.1, HT.out.2]
      refine ⟨_, _, _, _, _, _, _, _, HX4.out.set 4 (.bool false) _ rfl (ok_ack HX4.out.ses.ok false) rfl rfl rfl, ?_⟩
      rw [List.map_append, HL3.out, HL2.out]
      unfold ackE
      rw [if_pos (show (outL s.mine now (helloL now s.l)).ackDue = true from HAd.out)]
      simp only [List.append_assoc, List.map_cons, List.map_nil]
structure TickIs (F : Nat → Prop) (p : Nat) (s : Ss) (now : Int) (w : World) (At : Option Addr) (ct : Nat) (l : List EvV) (w' : World) : Prop where
  is : l.map (·.e) = tickE s now
  row : w'.ownsRow w.heap.size 29 6 (.slice At l.length ct) l.length (cellsE l)
  bod : ∀ x ∈ l, ByU w' x.A x.e.body
  ses : SE F w' p (tickS s now)
  moved : Moved F w w'
  ku : Ku w w'
set_option maxHeartbeats 4000000 in
set_option maxRecDepth 20000 in
theorem tick_any (h : SesX w F p s A c vs bm D) (hF : ∀ k, F k → k < w.heap.size) (hn : -9223372036854775808 ≤ now ∧ now ≤ 9223372036854775807) :
    Calls Try.prog 12 #[.pointer (some ⟨p, 0, none⟩), .int .i64 now] w fun e w' => ∃ At ct l, e = .returned (.slice At l.length ct) ∧ TickIs F p s now w At ct l w' := by
  obtain ⟨W1, hW1⟩ : ∃ W1, W1 = w.alloc (.cells #[.pointer (some ⟨p, 0, none⟩)] 33) := ⟨_, rfl⟩
  have hB1 : Below w.heap.size w W1 := by rw [hW1]; exact below_alloc _ _
  have k1 : W1.heap[w.heap.size]? = some (.cells #[.pointer (some ⟨p, 0, none⟩)] 33 (0, 0)) := by rw [hW1]; exact heap_new w _
  have hz1 : W1.heap.size = w.heap.size + 1 := by rw [hW1]; simp
  obtain ⟨W2, hW2⟩ : ∃ W2, W2 = W1.alloc (.cells #[.slice none 0 0] 39) := ⟨_, rfl⟩
  have hB2 : Below W1.heap.size W1 W2 := by rw [hW2]; exact below_alloc _ _
  have k2 : W2.heap[W1.heap.size]? = some (.cells #[.slice none 0 0] 39 (0, 0)) := by rw [hW2]; exact heap_new W1 _
  have hb12 : Below w.heap.size w W2 := hB1.trans (hB2.mono hB1.size)
  have hT : TkX F p s A c vs bm D w.heap.size W1.heap.size none 0 [] w W2 := ⟨h.later hb12, (hB2.block _ (heap_lt k1)).trans k1, k2, World.ownsRow_nil _ _ _ _, (fun x hx => (by cases hx)), hF, ⟨Nat.le_refl _, hB1.size⟩, Below.movedNew hb12, Below.ku hb12⟩
  have HC := Lib.hid (closed_any (h.later hB1))
  have HA := Lib.hid (tellAll_any hT (by show 0 ≤ 30000; omega) hn)
  have x1 : W1.cell? ⟨w.heap.size, 0, none⟩ = some (.pointer (some ⟨p, 0, none⟩)) := cell_of_row _ _ 0 _ _ _ k1
  have x2 : W2.cell? ⟨w.heap.size, 0, none⟩ = some (.pointer (some ⟨p, 0, none⟩)) := cell_later hB2 x1
  have HW1 := Lib.hid hW1
  have HW2 := Lib.hid hW2
  clear hW1 hB1 k1 hz1 hW2 hB2 k2 hb12 hT h hF hn
  go_enter Try.func12, Try.ntmps12
  go_wp2_with (first
    | rw [← HW1.out]
    | rw [← HW2.out]
    | (go_at_call 19; refine Calls.mono (by with_reducible exact HC.out) ?_; rintro e w3 ⟨rfl, rfl⟩)
    | (go_at_call 26; refine Calls.mono (by with_reducible exact HA.out) ?_; rintro e w4 ⟨rfl, hS⟩; obtain ⟨B4, d4, us4, bn4, D4, At4, ct4, l4, hX4, hl4⟩ := hS; have HX4 := Lib.hid hX4; have HL4 := Lib.hid hl4; have y2 := hX4.cells.2.1; clear hX4 hl4))
  go_ret
  exact ⟨At4, ct4, l4, rfl, HL4.out, HX4.out.row, HX4.out.bod, HX4.out.ses.se, HX4.out.moved, HX4.out.ku⟩
end
end Go.Proofs.Ytihkjdoajfjnpaa
