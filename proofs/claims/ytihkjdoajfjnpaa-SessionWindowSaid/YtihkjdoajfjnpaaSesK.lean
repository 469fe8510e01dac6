/- Package session: what a Tick tells. -/
import Derived.Test.YtihkjdoajfjnpaaSesJ
set_option linter.unusedSimpArgs false
set_option linter.unusedVariables false
namespace Go.Proofs.Ytihkjdoajfjnpaa
open Go.ChangeShapes Go.WideShapes Go.ChangeAt Go.RowKit Go.Base Go.Ses

abbrev tellV (kb kt : Nat) : Value := .func (.func 27) #[] #[.pointer (some ⟨kb, 0, none⟩), .pointer (some ⟨kt, 0, none⟩)]
section
variable {F G : Nat → Prop} {w w1 w' W V : World} {p kb kt : Nat} {s s2 : Ss} {A At : Option Addr} {c ct : Nat} {vs : List SlV} {bm : Nat} {D : DataW Value} {q : Nat → Prop} {l : List EvV}
/-- On the way through a Tick that began at w. -/
structure TkX (F : Nat → Prop) (p : Nat) (s : Ss) (A : Option Addr) (c : Nat) (vs : List SlV) (bm : Nat) (D : DataW Value) (kb kt : Nat) (At : Option Addr) (ct : Nat) (l : List EvV) (w W : World) : Prop where
  ses : SesX W F p s A c vs bm D
  box : W.heap[kb]? = some (.cells #[.pointer (some ⟨p, 0, none⟩)] 33 (0, 0))
  told : W.heap[kt]? = some (.cells #[.slice At l.length ct] 39 (0, 0))
  row : W.ownsRow w.heap.size 29 6 (.slice At l.length ct) l.length (cellsE l)
  bod : ∀ x ∈ l, ByU W x.A x.e.body
  tight : ∀ k, F k → k < w.heap.size
  new : w.heap.size ≤ kb ∧ w.heap.size ≤ kt
  moved : Moved F w W
  ku : Ku w W
def TkS (F : Nat → Prop) (p : Nat) (s : Ss) (kb kt : Nat) (E : List Ev) (w W : World) : Prop := ∃ A c vs bm D At ct l, TkX F p s A c vs bm D kb kt At ct l w W ∧ l.map (·.e) = E
theorem TkX.later (h : TkX F p s A c vs bm D kb kt At ct l w W) (hb : Below W.heap.size W V) : TkX F p s A c vs bm D kb kt At ct l w V :=
  ⟨h.ses.later hb, (hb.block _ (heap_lt h.box)).trans h.box, (hb.block _ (heap_lt h.told)).trans h.told, own_moved (p := fun _ => False) h.row (Below.movedNew hb) (fun _ _ h => h), fun x hx => (h.bod x hx).later hb, h.tight, h.new, h.moved.trans (q := fun _ => False) (Below.movedNew hb) (fun _ _ h => h.elim), h.ku.trans (Below.ku hb)⟩
theorem TkS.later {E : List Ev} (h : TkS F p s kb kt E w W) (hb : Below W.heap.size W V) : TkS F p s kb kt E w V := by
  obtain ⟨A, c, vs, bm, D, At, ct, l, h, e⟩ := h; exact ⟨A, c, vs, bm, D, At, ct, l, h.later hb, e⟩
theorem TkX.cells (h : TkX F p s A c vs bm D kb kt At ct l w W) : W.cell? ⟨kb, 0, none⟩ = some (.pointer (some ⟨p, 0, none⟩)) ∧ W.cell? ⟨kt, 0, none⟩ = some (.slice At l.length ct) ∧ W.frozen? ⟨kt, 0, none⟩ = false :=
  ⟨cell_of_row _ _ 0 _ _ _ h.box, cell_of_row _ _ 0 _ _ _ h.told, (cells_of_heap h.told).2 0⟩
/-- The session's own block written. -/
theorem TkX.own (h : TkX F p s A c vs bm D kb kt At ct l w W) (hm : Moved (fun k => k = p) W V) (hs : SesX V F p s2 A c vs bm D) : TkX F p s2 A c vs bm D kb kt At ct l w V := by
  have hp := h.tight p h.ses.inF.1
  have hu := h.ses.ku_set hm
  exact ⟨hs, hm.heap h.box (fun e => by have := h.new.1; omega), hm.heap h.told (fun e => by have := h.new.2; omega), own_moved h.row hm (fun k hk e => by have := (h.row.lt k hk).1; omega), fun x hx => (h.bod x hx).kept hu, h.tight, h.new, h.moved.trans hm (fun k _ e => e ▸ h.ses.inF.1), h.ku.trans hu⟩
theorem TkX.set (h : TkX F p s A c vs bm D kb kt At ct l w W) (i : Nat) (u : Value) (s2 : Ss) (hc : (sesC s A vs.length c bm).setIfInBounds i u = sesC s2 A vs.length c bm) (hok : Ok s2) (h1 : s2.l.out = s.l.out) (h2 : s2.l.inn = s.l.inn) (h3 : s2.l.puts = s.l.puts) : TkX F p s2 A c vs bm D kb kt At ct l w (W.setCell ⟨p, i, none⟩ u) := by
  have hm : Moved (fun k => k = p) W (W.setCell ⟨p, i, none⟩ u) := (Moved.refl (fun k => k = p) W).setCell (.inr rfl) _
  exact h.own hm (h.ses.set hm (by rw [heap_set h.ses.self i u, hc]) hok h1 h2 h3)
/-- One more envelope told. -/
theorem tell_end {w6 w7 : World} {x : EvV} {A7 : Option Addr} {c7 : Nat} (h : TkX F p s A c vs bm D kb kt At ct l w w6) (hx : ByU w6 x.A x.e.body)
    (hown : w7.ownsRow w.heap.size 29 6 (.slice A7 (l.length + 1) c7) (l.length + 1) (cellsE l ++ x.cells)) (hg : w6.grownBy w7 (Value.slice At l.length ct).ownBlock) :
    TkX F p s A c vs bm D kb kt A7 c7 (l ++ [x]) w (w7.setCell ⟨kt, 0, none⟩ (.slice A7 (l.length + 1) c7)) ∧ w7.cell? ⟨kt, 0, none⟩ = some (.slice At l.length ct) ∧ w7.frozen? ⟨kt, 0, none⟩ = false := by
  have hm7 : Moved (fun k => (Value.slice At l.length ct).ownBlock = some k) w6 w7 := Moved.grown (p := fun k => (Value.slice At l.length ct).ownBlock = some k) (Moved.refl _ w6) hg (fun k _ e => e)
  have hu7 : Ku w6 w7 := grown_ku h.row (by decide) hg
  have hrb : ∀ k, (Value.slice At l.length ct).ownBlock = some k → w.heap.size ≤ k := fun k hk => (h.row.lt k hk).1
  have ht7 : w7.heap[kt]? = some (.cells #[.slice At l.length ct] 39 (0, 0)) := hm7.heap h.told (own_ne h.row h.told (by decide))
  have hb7 : w7.heap[kb]? = some (.cells #[.pointer (some ⟨p, 0, none⟩)] 33 (0, 0)) := hm7.heap h.box (own_ne h.row h.box (by decide))
  have hs7 : SesX w7 F p s A c vs bm D := h.ses.kept hm7 (fun k hk e => by have := h.tight k hk; have := hrb k e; omega) hu7
  have hm8 : Moved (fun k => k = kt) w7 (w7.setCell ⟨kt, 0, none⟩ (.slice A7 (l.length + 1) c7)) := (Moved.refl (fun k => k = kt) w7).setCell (.inr rfl) _
  have hu8 : Ku w7 (w7.setCell ⟨kt, 0, none⟩ (.slice A7 (l.length + 1) c7)) := hm8.ku (fun T hT k cs z e hk => by subst e; rw [ht7] at hk; injection hk with hk; injection hk with _ hk _; rcases hT with rfl | rfl <;> revert hk <;> decide)
  have hln : (l ++ [x]).length = l.length + 1 := by simp
  refine ⟨⟨hs7.kept hm8 (fun k hk e => by have := h.tight k hk; have := h.new.2; omega) hu8, hm8.heap hb7 (fun e => by subst e; rw [hb7] at ht7; injection ht7 with ht7; injection ht7 with _ ht7 _; revert ht7; decide), ?_, ?_, fun y hy => ?_, h.tight, h.new, ?_, (h.ku.trans hu7).trans hu8⟩, cell_of_row _ _ 0 _ _ _ ht7, (cells_of_heap ht7).2 0⟩
  · rw [heap_set ht7 0, hln]; rfl
  · rw [hln, cellsE_append]
    have : cellsE [x] = x.cells := by unfold cellsE; simp
    rw [this]
    exact own_moved hown hm8 (fun k hk e => own_ne hown ht7 (by decide) (by rw [hk, e]))
  · rcases List.mem_append.1 hy with hy | hy
    · exact ((h.bod y hy).kept hu7).kept hu8
    · rw [List.mem_singleton.1 hy]; exact (hx.kept hu7).kept hu8
  · exact (h.moved.trans hm7 (fun k hk e => absurd hk (Nat.not_lt.2 (hrb k e)))).trans hm8 (fun k hk e => absurd hk (by have := h.new.2; omega))
set_option maxHeartbeats 4000000 in
set_option maxRecDepth 20000 in
theorem tell_any (h : TkX F p s A c vs bm D kb kt At ct l w W) (kd sq ak : Int) (b : Bytes) (A0 : Option Addr) (c0 : Nat) (hb : ByU W A0 b) (hl : l.length ≤ 100000) :
    Calls Try.prog 27 #[.agg #[.int .i64 kd, .int .i64 0, .int .i64 0, .int .i64 sq, .int .i64 ak, .slice A0 b.length c0], .pointer (some ⟨kb, 0, none⟩), .pointer (some ⟨kt, 0, none⟩)] W
      fun e W' => e = .returned (.tuple #[]) ∧ ∃ A7 c7, TkX F p s A c vs bm D kb kt A7 c7 (l ++ [⟨⟨kd, s.mine, s.l.yours, sq, ak, b⟩, A0, c0⟩]) w W' := by
  obtain ⟨W1, hW1⟩ : ∃ W1, W1 = W.alloc (.cells #[.int .i64 kd, .int .i64 0, .int .i64 0, .int .i64 sq, .int .i64 ak, .slice A0 b.length c0] 29) := ⟨_, rfl⟩
  have hB1 : Below W.heap.size W W1 := by rw [hW1]; exact below_alloc _ _
  have hX1 := h.later hB1
  have kE : W1.heap[W.heap.size]? = some (.cells #[.int .i64 kd, .int .i64 0, .int .i64 0, .int .i64 sq, .int .i64 ak, .slice A0 b.length c0] 29 (0, 0)) := by rw [hW1]; exact heap_new W _
  obtain ⟨m, hm⟩ : ∃ m, m = s.mine := ⟨_, rfl⟩
  obtain ⟨y, hy⟩ : ∃ y, y = s.l.yours := ⟨_, rfl⟩
  obtain ⟨n, hn⟩ : ∃ n, n = b.length := ⟨_, rfl⟩
  rw [← hn] at hW1 kE ⊢
  have HX1 := Lib.hid hX1
  have HW1 := Lib.hid hW1
  have HKE := Lib.hid kE
  have HM := Lib.hid (And.intro hm (And.intro hy hn))
  have HBb := Lib.hid hb
  have HB1 := Lib.hid hB1
  have H0 := Lib.hid h
  have x0 := hX1.cells.1
  have x1 : W1.cell? ⟨p, 0, none⟩ = some (.int .i64 m) := by rw [hm]; exact hX1.ses.c0
  have x2 : W1.cell? ⟨p, 1, none⟩ = some (.int .i64 y) := by rw [hy]; exact hX1.ses.c1
  have g1 : W1.cell? ⟨W.heap.size, 1, none⟩ = some (.int .i64 0) := cell_of_row _ _ 1 _ _ _ kE
  have g2 : W1.cell? ⟨W.heap.size, 2, none⟩ = some (.int .i64 0) := cell_of_row _ _ 2 _ _ _ kE
  have f1 := (cells_of_heap kE).2 1
  have f2 := (cells_of_heap kE).2 2
  have hpl : p ≠ W.heap.size := by have := h.ses.lt; omega
  have hkl : kb ≠ W.heap.size := by have := heap_lt h.box; omega
  clear hW1 hB1 hX1 kE hm hy hb h hn
  go_enter Try.func27, Try.ntmps27
  go_wp2_with (rw [← HW1.out])
  go_region
  have hB2 : Below W.heap.size W ((W1.setCell ⟨W.heap.size, 1, none⟩ (.int .i64 m)).setCell ⟨W.heap.size, 2, none⟩ (.int .i64 y)).drew := ((HB1.out.setCell (Nat.le_refl _) _).setCell (Nat.le_refl _) _).drew
  have kE2 : ((W1.setCell ⟨W.heap.size, 1, none⟩ (.int .i64 m)).setCell ⟨W.heap.size, 2, none⟩ (.int .i64 y)).drew.heap[W.heap.size]? = some (.cells #[.int .i64 kd, .int .i64 m, .int .i64 y, .int .i64 sq, .int .i64 ak, .slice A0 n c0] 29 (0, 0)) := heap_set (heap_set HKE.out 1 _) 2 _
  obtain ⟨W2, hW2⟩ : ∃ W2, W2 = ((W1.setCell ⟨W.heap.size, 1, none⟩ (.int .i64 m)).setCell ⟨W.heap.size, 2, none⟩ (.int .i64 y)).drew := ⟨_, rfl⟩
  rw [← hW2] at hB2 kE2 ⊢
  clear hW2 x0 x1 x2 g1 g2 f1 f2
  have hX2 := H0.out.later hB2
  have HX2 := Lib.hid hX2
  have hbt : Byt W2 A0 b := ((HBb.out).later hB2).byt
  have HBu := Lib.hid ((HBb.out).later hB2)
  have y1 := hX2.cells.2.1
  have z0 : W2.cell? ⟨W.heap.size, 0, none⟩ = some (.int .i64 kd) := cell_of_row _ _ 0 _ _ _ kE2
  have z1 : W2.cell? ⟨W.heap.size, 1, none⟩ = some (.int .i64 m) := cell_of_row _ _ 1 _ _ _ kE2
  have z2 : W2.cell? ⟨W.heap.size, 2, none⟩ = some (.int .i64 y) := cell_of_row _ _ 2 _ _ _ kE2
  have z3 : W2.cell? ⟨W.heap.size, 3, none⟩ = some (.int .i64 sq) := cell_of_row _ _ 3 _ _ _ kE2
  have z4 : W2.cell? ⟨W.heap.size, 4, none⟩ = some (.int .i64 ak) := cell_of_row _ _ 4 _ _ _ kE2
  have z5 : W2.cell? ⟨W.heap.size, 5, none⟩ = some (.slice A0 n c0) := cell_of_row _ _ 5 _ _ _ kE2
  have HXa := Lib.hid (hX2.later (below_alloc W2 (.cells #[.int .i64 kd, .int .i64 m, .int .i64 y, .int .i64 sq, .int .i64 ak, .slice A0 n c0] 29)))
  obtain ⟨nl, hnl⟩ : ∃ nl, nl = l.length := ⟨_, rfl⟩
  have HNl := Lib.hid hnl
  rw [← hnl] at y1 hl
  obtain ⟨i0, hinfo, hz0, hzs, hz2⟩ := info_parts (P := Try.prog) (e := 29) (z := .agg #[.int .i64 0, .int .i64 0, .int .i64 0, .int .i64 0, .int .i64 0, .slice none 0 0]) (size := 6) (bytes := 64) (by kernel_rfl)
  clear hX2 hbt kE2 hnl hB2
  go_wp2_with (at_builtin; refine wpList_append_k _ rfl (.tmp 15) (.tmp 17) 39 rfl 29 i0 (.agg #[.int .i64 0, .int .i64 0, .int .i64 0, .int .i64 0, .int .i64 0, .slice none 0 0]) 6 64 Try.underlying39 hinfo hz0 hzs hz2 rfl (by decide) w.heap.size _ nl (cellsE l) rfl (by rw [HNl.out]; exact HXa.out.row) (some ⟨W2.heap.size, 0, none⟩) 1 1 [.int .i64 kd, .int .i64 m, .int .i64 y, .int .i64 sq, .int .i64 ak, .slice A0 n c0] rfl rfl (fun _ => ⟨_, rfl, cells_of_block (heap_new W2 (.cells #[.int .i64 kd, .int .i64 m, .int .i64 y, .int .i64 sq, .int .i64 ak, .slice A0 n c0] 29))⟩) (fun u hu => by simp at hu; rcases hu with rfl | rfl | rfl | rfl | rfl | rfl <;> rfl) (by unfold maxLen; omega) (by omega) HXa.out.moved.size ?_; intro A7 c7 w7 hown7 hgrow7 hwh7; rw [HNl.out, HM.out.1, HM.out.2.1, HM.out.2.2] at hown7; rw [HNl.out] at hgrow7; have hE := tell_end (x := ⟨⟨kd, s.mine, s.l.yours, sq, ak, b⟩, A0, c0⟩) HXa.out (HBu.out.later (below_alloc _ _)) hown7 hgrow7; obtain ⟨hE1, v7, f7⟩ := hE; rw [← HNl.out] at v7; have HR := Lib.hid hE1; clear hE1 hown7 hgrow7 hwh7)
  go_end0
  refine ⟨rfl, A7, c7, ?_⟩
  rw [HNl.out]
  exact HR.out
end
end Go.Proofs.Ytihkjdoajfjnpaa
