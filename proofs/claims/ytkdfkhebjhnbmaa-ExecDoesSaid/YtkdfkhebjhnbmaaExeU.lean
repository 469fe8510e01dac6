/- The law ExecDoes. -/
import Derived.Test.YtkdfkhebjhnbmaaExeN
import Derived.Test.YtkdfkhebjhnbmaaExeT
set_option linter.unusedSimpArgs false
set_option linter.unusedVariables false
namespace Go.Proofs.Ytkdfkhebjhnbmaa
open Go.ChangeShapes Go.WideShapes Go.ChangeAt Go.RowKit Go.Base Go.Que Go.Exe

/-- The exec and the reference, side by side, of the same runs; block b0 is neither's. -/
def Bun (B : Nat) (w : World) (x y b0 : Nat) (slots s : Int) (L : List Rn) : Prop :=
  ∃ F, EX F w x slots s L ∧ (∀ k, F k → B ≤ k) ∧ B ≤ y ∧ ¬ F y ∧ ¬ F b0 ∧ y ≠ b0 ∧ RYP (fun k => ¬ F k) w y slots L
section
variable {B x y b0 : Nat} {w w' : World} {slots s : Int} {L : List Rn}
theorem Bun.later (h : Bun B w x y b0 slots s L) (hb : Below w.heap.size w w') : Bun B w' x y b0 slots s L := by
  obtain ⟨F, h1, h2, h3, h4, h5, h6, h7⟩ := h
  exact ⟨F, h1.later hb, h2, h3, h4, h5, h6, h7.kept (p := fun _ => False) (Below.movedNew hb) (fun h => h) (fun _ _ h => h)⟩
theorem Bun.ok (h : Bun B w x y b0 slots s L) : Ok slots s L := by
  obtain ⟨F, h1, _⟩ := h
  exact h1.ok
theorem Bun.ry (h : Bun B w x y b0 slots s L) : RY w y slots L := by
  obtain ⟨F, _, _, _, _, _, _, h7⟩ := h
  exact h7.ry
theorem Bun.ex (h : Bun B w x y b0 slots s L) : ∃ F, EX F w x slots s L := by
  obtain ⟨F, h1, _⟩ := h
  exact ⟨F, h1⟩
/-- The exec has changed, the reference not yet. -/
def Mid (B : Nat) (w : World) (x y b0 : Nat) (slots s : Int) (L L' : List Rn) : Prop :=
  ∃ F, EX F w x slots s L' ∧ (∀ k, F k → B ≤ k) ∧ B ≤ y ∧ ¬ F y ∧ ¬ F b0 ∧ y ≠ b0 ∧ RYP (fun k => ¬ F k) w y slots L
theorem mid_of {s' : Int} {L' : List Rn} {F : Nat → Prop} (h1 : EX F w x slots s L) (h2 : ∀ k, F k → B ≤ k) (h3 : B ≤ y) (h4 : ¬ F y) (h5 : ¬ F b0) (h6 : y ≠ b0) (h7 : RYP (fun k => ¬ F k) w y slots L) (hB : B ≤ w.heap.size) (hb0 : b0 < w.heap.size)
    {F' : Nat → Prop} (hx : EX F' w' x slots s' L') (hF : ∀ k, F' k → F k ∨ w.heap.size ≤ k) (hm : Moved F w w') : Mid B w' x y b0 slots s' L L' ∧ Below B w w' ∧ ∀ o, w.heap[b0]? = some o → w'.heap[b0]? = some o := by
  have hyl : y < w.heap.size := by obtain ⟨A, c, hy, _⟩ := h7; exact heap_lt hy
  have hF0 : ∀ {k}, k < w.heap.size → ¬ F k → ¬ F' k := fun {k} hk hn h => (hF k h).elim hn (fun h => by omega)
  refine ⟨⟨F', hx, fun k hk => (hF k hk).elim (h2 k) (fun h => by omega), h3, hF0 hyl h4, hF0 hb0 h5, h6, ?_⟩, hm.below (fun k _ h => h2 k h) hB, fun o ho => hm.heap ho h5⟩
  have h8 : RYP (fun k => ¬ F k ∧ k < w.heap.size) w y slots L := h7.weak (fun k hk hn => ⟨hn, hk⟩)
  exact (h8.kept hm h4 (fun k h => h.1)).weak (fun k _ h => hF0 h.2 h.1)
theorem bun_of {s' : Int} {L' : List Rn} (h : Mid B w x y b0 slots s' L L') (hB : B ≤ w.heap.size) (hr : RYP (fun k => w.heap.size ≤ k) w' y slots L') (hm : Moved (fun k => k = y) w w') : Bun B w' x y b0 slots s' L' ∧ Below B w w' ∧ ∀ o, w.heap[b0]? = some o → w'.heap[b0]? = some o := by
  obtain ⟨F, h1, h2, h3, h4, h5, h6, h7⟩ := h
  refine ⟨⟨F, h1.kept hm (fun k hk e => h4 (e ▸ hk)), h2, h3, h4, h5, h6, hr.weak (fun k _ hk hF => ?_)⟩, hm.below (fun k _ e => by subst e; exact h3) hB, fun o ho => hm.heap ho (fun e => h6 e.symm)⟩
  have := h1.2 _ hF
  omega
end
theorem split_uniq {now : Int} : ∀ {d1 d2 r1 r2 : List Rn}, d1 ++ r1 = d2 ++ r2 → (∀ r ∈ d1, r.until_ ≤ now) → (∀ r ∈ r1, now < r.until_) → (∀ r ∈ d2, r.until_ ≤ now) → (∀ r ∈ r2, now < r.until_) → d1 = d2 ∧ r1 = r2
  | [], [], r1, r2, h, _, _, _, _ => ⟨rfl, h⟩
  | [], b :: d2, r1, r2, h, _, h2, h3, _ => by
    have hb : b ∈ r1 := by rw [show r1 = (b :: d2) ++ r2 from h]; simp
    have h4 := h2 b hb
    have h5 := h3 b (List.mem_cons_self ..)
    omega
  | a :: d1, [], r1, r2, h, h1, _, _, h4 => by
    have hb : a ∈ r2 := by rw [show r2 = (a :: d1) ++ r1 from h.symm]; simp
    have h5 := h4 a hb
    have h6 := h1 a (List.mem_cons_self ..)
    omega
  | a :: d1, b :: d2, r1, r2, h, h1, h2, h3, h4 => by
    rw [List.cons_append, List.cons_append] at h
    injection h with e h
    obtain ⟨e1, e2⟩ := split_uniq h (fun r hr => h1 r (List.mem_cons_of_mem _ hr)) h2 (fun r hr => h3 r (List.mem_cons_of_mem _ hr)) h4
    exact ⟨by rw [e, e1], e2⟩
def opV (o : Xop) : Array Value := #[.int .i64 o.kind, .string o.key.job, .int .i64 o.key.occ, .int .i64 o.key.host, .int .i64 o.un, .int .i64 o.now]
set_option maxHeartbeats 8000000 in
set_option maxRecDepth 20000 in
theorem law_does_bad {slots : Int} (A : Option Addr) (n c : Nat) (w : World) (hm : n ≤ maxLen) (hs : slots < 1 ∨ 65536 < slots) :
    Calls Try.prog 3 #[.int .i64 slots, .slice A n c] w fun e w' => e = .returned (.bool true) ∧ Below w.heap.size w w' := by
  have HLi := Lib.hid (fun V => xlives V)
  have HX := Lib.hid (fun V => xnew_bad hs V)
  have HR := Lib.hid (fun V => rnew_bad hs V)
  have hm0 : (n : Int) ≤ 9223372036854775807 := by unfold maxLen at hm; omega
  have hn0 : (0 : Int) ≤ (n : Int) := by omega
  by_cases h0 : n = 0
  · subst h0
    clear hs hm
    go_enter Try.func3, Try.ntmps3
    go_wp2_with (first
      | (go_at_call 7; refine Calls.mono (by with_reducible exact HX.out _) ?_; rintro e w1 ⟨rfl, rfl⟩)
      | (go_at_call 8; refine Calls.mono (by with_reducible exact HR.out _) ?_; rintro e w1 ⟨rfl, rfl⟩)
      | (go_at_call 9; refine Calls.mono (by with_reducible exact HLi.out _) ?_; rintro e w2 ⟨rfl, hb⟩; have HB := Lib.hid hb; clear hb))
    go_loopw [9] (fun iv wr => iv = .int .i64 0 ∧ Hid (Below w.heap.size w wr)) (fun _ _ => 0)
    case atStart => exact ⟨rfl, HB⟩
    case round =>
      clear HB
      obtain ⟨rfl, HB⟩ := hrel
      go_wp2
      go_ret
      exact ⟨rfl, HB.out⟩
  · have hn1 : (0 : Int) < (n : Int) := by omega
    have hn2 : 0 < n := by omega
    clear hs hm
    go_enter Try.func3, Try.ntmps3
    go_wp2_with (first
      | (go_at_call 7; refine Calls.mono (by with_reducible exact HX.out _) ?_; rintro e w1 ⟨rfl, rfl⟩)
      | (go_at_call 8; refine Calls.mono (by with_reducible exact HR.out _) ?_; rintro e w1 ⟨rfl, rfl⟩)
      | (go_at_call 9; refine Calls.mono (by with_reducible exact HLi.out _) ?_; rintro e w2 ⟨rfl, hb⟩; have HB := Lib.hid hb; clear hb))
    go_loopw [9] (fun iv wr => iv = .int .i64 0 ∧ Hid (Below w.heap.size w wr)) (fun _ _ => 0)
    case atStart => exact ⟨rfl, HB⟩
    case round =>
      clear HB
      obtain ⟨rfl, HB⟩ := hrel
      go_wp2
      go_ret
      exact ⟨rfl, HB.out⟩
end Go.Proofs.Ytkdfkhebjhnbmaa
