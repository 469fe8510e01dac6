/- A range over an iterator that makes and writes blocks of its own between any two rounds; the rounds make blocks of their own too. Who owns what is said by a set O of the iterator's blocks at each moment; C are the blocks that its value has captured. -/
import Derived.RangeFuncFrom
import Derived.RangeFuncNested
import Derived.Test.YtnijneajlmgkjaaDoorMoved
set_option linter.unusedVariables false
namespace Go
open Go.RowKit Go.Proofs.YtnijneajlmgkjaaDoor
variable {F : Fence} {n : Nat} {P : Program}

/-- The blocks of O lie from B on. -/
abbrev OwnO (B : Nat) (O : Nat → Prop) (W : World) : Prop := ∀ k, O k → B ≤ k ∧ k < W.heap.size
/-- A step of the owner of O: it changes its own blocks alone; what it owns then is of these, or new. -/
structure StepO (B : Nat) (O O' : Nat → Prop) (W W' : World) : Prop where
  own : OwnO B O W
  moved : Moved O W W'
  own' : OwnO B O' W'
  new : ∀ k, O' k → O k ∨ W.heap.size ≤ k
def AbidesO {β : Type} (B : Nat) (J : (Nat → Prop) → β → World → Prop) : Prop := ∀ O O' s W W', J O s W → StepO B O O' W W' → J O' s W'
/-- The contract of such an iterator. -/
def SeqO {α : Type} (F : Fence) (n : Nat) (P : Program) (g : Nat) (lb : Array Value) (encs : α → Array Value) (C : Nat → Prop) (M : List α) (w : World) : Prop :=
  ∀ (l : Nat) (J Jx : (Nat → Prop) → List α → World → Prop) (W : World), Below w.heap.size w W → AbidesO W.heap.size J → AbidesO W.heap.size Jx →
    (∀ O pre x W1, OwnO W.heap.size O W1 → J O pre W1 → pre ++ [x] <+: M → YieldAt F (n - 1) P l (encs x) W1 fun e W' =>
      ((e = .returned (.bool true) ∧ J O (pre ++ [x]) W') ∨ (e = .returned (.bool false) ∧ Jx O (pre ++ [x]) W')) ∧ Moved (fun k => ¬ O k ∧ ¬ C k) W1 W') →
    J (fun _ => False) [] W →
    CallsIn F n P g (#[.func (.yield l) #[] #[]] ++ lb) W fun e W' => (∃ v, e = .returned v) ∧ ((∃ O, OwnO W.heap.size O W' ∧ J O M W') ∨ (∃ O pre, OwnO W.heap.size O W' ∧ pre <+: M ∧ Jx O pre W'))
theorem SeqO.inRound {α : Type} {g : Nat} {lb : Array Value} {encs : α → Array Value} {C : Nat → Prop} {M : List α} {w : World} (l : Nat)
    (h : SeqO F n P g lb encs C M w) : SeqO (F.inRound l) n P g lb encs C M w := h

/-- How a round's body may be left. -/
def roundO {α : Type} (I : (Nat → Prop) → List α → World → Prop) (Ix : Code → (Nat → Prop) → List α → World → Prop) (O C : Nat → Prop) (xs : List α) (W : World) : Exit → Act → World → Prop
  | .normal, _, W' => Moved (fun k => ¬ O k ∧ ¬ C k) W W' ∧ I O xs W'
  | .ret, _, W' => Moved (fun k => ¬ O k ∧ ¬ C k) W W' ∧ Ix .ret O xs W'
  | .exit id, _, W' => Moved (fun k => ¬ O k ∧ ¬ C k) W W' ∧ Ix (.exit id) O xs W'
  | .goto t, _, W' => Moved (fun k => ¬ O k ∧ ¬ C k) W W' ∧ Ix (.goto t) O xs W'
  | .panic _, _, _ => False
  | .outgrown, _, _ => False

theorem moved_putObjO {p : Nat → Prop} {l : Nat} (W : World) (o : Obj) (hl : p l) : Moved p W (W.putObj l o) :=
  ⟨rfl, rfl, rfl, by simp [World.putObj], fun k hk hn => World.putObj_heap_other (fun e => hn (e ▸ hl))⟩
theorem step_same {B : Nat} {O : Nat → Prop} {W W' : World} (ho : OwnO B O W) (hm : Moved O W W') : StepO B O O W W' :=
  ⟨ho, hm, fun k hk => ⟨(ho k hk).1, Nat.lt_of_lt_of_le (ho k hk).2 hm.size⟩, fun k hk => .inl hk⟩

set_option maxHeartbeats 1000000 in
theorem wpIn_rangeFunc_O {α : Type} {g : Operand} {ps : Array Tmp} {assign body : Code} {Q : Exit → Act → World → Prop} {a : Act} {w : World}
    (hro : F.round = none) (h1 : 1 ≤ n) {gf : Nat} {lb : Array Value} (hg : a.eval g = .func (.func gf) #[] lb) (hFg : F.fn gf) (eg : ∀ args w, (callFunc gf args).run P w = .ok (.enter gf args) w)
    {encs : α → Array Value} {C : Nat → Prop} {M : List α} {w0 : World} (hseq : SeqO F (n - 1) P gf lb encs C M w0) (hb0 : Below w0.heap.size w0 w) (hC : ∀ k, C k → k < w.heap.size) (hps : ∀ x, (encs x).size = ps.size)
    (I : (Nat → Prop) → List α → World → Prop) (Ix : Code → (Nat → Prop) → List α → World → Prop) (hI : AbidesO w.heap.size I) (hIx : ∀ c, AbidesO w.heap.size (Ix c)) (h0 : I (fun _ => False) [] w)
    (hround : ∀ (l : Nat) (O : Nat → Prop) (pre : List α) (x : α) (W : World), O l → OwnO w.heap.size O W → I O pre W → pre ++ [x] <+: M →
      assign.wpIn (F.inRound l) (n - 1 - 1) P (Exit.then (fun a₂ W₂ => Moved (fun k => ¬ O k ∧ ¬ C k) W W₂ ∧ ∀ (r : Loop) (W₃ : World), W₃ = W₂.putObj l (.loop r) → body.wpIn (F.inRound l) (n - 1 - 1) P (roundO I Ix O C (pre ++ [x]) W₃) a₂ W₃) (fun _ _ _ => False))
        { tmps := (ps.zip (encs x)).foldl (fun t (p, v) => t.setIfInBounds p v) a.tmps, defers := [] } W)
    (hdone : ∀ (D : Nat) (O : Nat → Prop) (W : World), w.heap.size ≤ D → O D → OwnO w.heap.size O W → I O M W → W.heap[D]? = some (.deferred (some [])) → Q .normal { a with defers := { target := .collected D, args := #[] } :: a.defers } W)
    (hstop : ∀ (D : Nat) (c : Code) (O : Nat → Prop) (pre : List α) (W : World), w.heap.size ≤ D → O D → OwnO w.heap.size O W → pre <+: M → Ix c O pre W → W.heap[D]? = some (.deferred (some [])) → c.wpIn F n P Q { a with defers := { target := .collected D, args := #[] } :: a.defers } W) :
    (Code.rangeFunc g ps assign body).wpIn F n P Q a w := by
  refine wpIn_rangeFunc (fun fn hfn => ?_)
  rw [hro]
  obtain ⟨D, hD⟩ : ∃ D, w.heap.size = D := ⟨_, rfl⟩
  rw [hD] at hI hround hdone hstop hC
  have hIx : ∀ c, AbidesO D (Ix c) := fun c => hD ▸ hIx c
  obtain ⟨rec, hrec⟩ : ∃ rec : LoopState → Option Code → Loop, rec = fun st pe => { state := st, pending := pe, fn, tmps := a.tmps, params := ps, assign, body, defers := D } := ⟨_, rfl⟩
  obtain ⟨V, hV⟩ : ∃ V, V = (w.alloc (.deferred (some []))).alloc (.loop (rec .ready none)) := ⟨_, rfl⟩
  have hsz : V.heap.size = D + 2 := by rw [hV]; simp [hD]
  have mV : Moved (fun _ => False) w V := by rw [hV]; exact ((Moved.refl _ w).alloc _).alloc _
  have hBV : Below D w V := by rw [hV, ← hD]; exact (((Below.refl _ w).alloc (Nat.le_refl _) _).alloc (by simp) _)
  have kD : V.heap[D]? = some (.deferred (some [])) := by
    rw [hV, ← hD]; exact (Below.heap_alloc _ _ _ (by simp)).trans (World.alloc_heap_new w _)
  have kL : V.heap[D + 1]? = some (.loop (rec .ready none)) := by
    rw [hV, ← hD]; have h9 := World.alloc_heap_new (w.alloc (.deferred (some []))) (.loop (rec .ready none)); rwa [World.size_alloc] at h9
  have hent : (Instr.enterLoop fn a.tmps ps assign body none).run P w = .ok (D + 1, [{ target := .collected D, args := #[] }]) V := by
    rw [hV, hrec, ← hD]; exact run_enterLoop_outer _ _ _ _ _
  -- the loop's own blocks with the iterator's
  let U : (Nat → Prop) → Nat → Prop := fun O k => O k ∨ k = D ∨ k = D + 1
  let J : (Nat → Prop) → List α → World → Prop := fun O pre W => I (U O) pre W ∧ W.heap[D + 1]? = some (.loop (rec .ready none)) ∧ W.heap[D]? = some (.deferred (some []))
  let Jx : (Nat → Prop) → List α → World → Prop := fun O pre W => ∃ c, Ix c (U O) pre W ∧ W.heap[D + 1]? = some (.loop (rec .done (some c))) ∧ W.heap[D]? = some (.deferred (some []))
  have hown : ∀ (O : Nat → Prop) (W : World) (o : Obj), OwnO V.heap.size O W → W.heap[D + 1]? = some o → OwnO D (U O) W := fun O W o ho hl k hk => by
    have hlt := heap_lt hl
    rcases hk with hk | hk
    · have := ho k hk; omega
    · omega
  have hstep : ∀ (O O' : Nat → Prop) (W W' : World) (o : Obj), W.heap[D + 1]? = some o → StepO V.heap.size O O' W W' → StepO D (U O) (U O') W W' := fun O O' W W' o hl hs => by
    have hm := hs.moved
    have hl' : W'.heap[D + 1]? = some o := hm.heap hl (fun hn => by have := (hs.own _ hn).1; omega)
    refine ⟨hown O W o hs.own hl, hm.weaken (fun k _ h => .inl h), hown O' W' o hs.own' hl', fun k hk => ?_⟩
    rcases hk with hk | hk
    · rcases hs.new k hk with h | h
      · exact .inl (.inl h)
      · exact .inr h
    · exact .inl (.inr hk)
  have hJ : AbidesO V.heap.size J := fun O O' s W W' h hs => by
    obtain ⟨h1, hl, hk⟩ := h
    have hm := hs.moved
    exact ⟨hI _ _ _ _ _ h1 (hstep O O' W W' _ hl hs), hm.heap hl (fun hn => by have := (hs.own _ hn).1; omega), hm.heap hk (fun hn => by have := (hs.own _ hn).1; omega)⟩
  have hJx : AbidesO V.heap.size Jx := fun O O' s W W' h hs => by
    obtain ⟨c, h1, hl, hk⟩ := h
    have hm := hs.moved
    exact ⟨c, hIx c _ _ _ _ _ h1 (hstep O O' W W' _ hl hs), hm.heap hl (fun hn => by have := (hs.own _ hn).1; omega), hm.heap hk (fun hn => by have := (hs.own _ hn).1; omega)⟩
  have hput : ∀ (O : Nat → Prop) (W : World) (o o' : Obj), OwnO V.heap.size O W → W.heap[D + 1]? = some o' → StepO D (U O) (U O) W (W.putObj (D + 1) o) := fun O W o o' ho hl =>
    step_same (hown O W o' ho hl) (moved_putObjO W o (by first | exact .inr rfl | exact .inr (.inr rfl)))
  have hcall : CallsIn F (n - 1) P gf (#[.func (.yield (D + 1)) #[] #[]] ++ lb) V fun e W' => (∃ v, e = .returned v) ∧ ((∃ O, OwnO V.heap.size O W' ∧ J O M W') ∨ (∃ O pre, OwnO V.heap.size O W' ∧ pre <+: M ∧ Jx O pre W')) := by
    refine hseq (D + 1) J Jx V (hb0.trans (hBV.mono (by have := hb0.size; omega))) hJ hJx ?_ ⟨hI _ _ _ _ _ h0 ⟨fun _ h => h.elim, mV, fun k hk => by
        rcases hk with hk | hk
        · exact hk.elim
        · omega, fun k hk => by
        rcases hk with hk | hk
        · exact hk.elim
        · exact .inr (by omega)⟩, kL, kD⟩
    rintro O pre x W hO ⟨hi, hl, hk⟩ hlen
    have hlt : D + 1 < W.heap.size := (Array.getElem?_eq_some_iff.1 hl).1
    have hUL : U O (D + 1) := by first | exact .inr rfl | exact .inr (.inr rfl)
    have hOL : ¬ O (D + 1) := fun h => by have := (hO _ h).1; omega
    have hy := run_yield (P := P) (args := encs x) hl (by rw [hrec]; exact hps x)
    rw [hrec] at hy
    refine ⟨fn, _, assign, body, hy, roundIn_of_wpIn hfn (wpIn_mono (hround (D + 1) (U O) pre x W hUL (hown O W _ hO hl) hi hlen) ?_)⟩
    have step : ∀ (a₂ : Act) (W₂ : World), (Moved (fun k => ¬ U O k ∧ ¬ C k) W W₂ ∧ ∀ (r : Loop) (W₃ : World), W₃ = W₂.putObj (D + 1) (.loop r) → body.wpIn (F.inRound (D + 1)) (n - 1 - 1) P (roundO I Ix (U O) C (pre ++ [x]) W₃) a₂ W₃) →
        ∃ w₂, (Instr.beginRound (D + 1)).run P W₂ = .ok () w₂ ∧ body.wpIn (F.inRound (D + 1)) (n - 1 - 1) P (roundPost P (D + 1) fun e W' => ((e = .returned (.bool true) ∧ J O (pre ++ [x]) W') ∨ (e = .returned (.bool false) ∧ Jx O (pre ++ [x]) W')) ∧ Moved (fun k => ¬ O k ∧ ¬ C k) W W') a₂ w₂ := by
      rintro a₂ W₂ ⟨hk2, hbody⟩
      have hl2 := hk2.heap hl (fun h => h.1 hUL)
      have hd2 := hk2.heap hk (fun h => h.1 (.inr (.inl rfl)))
      have hlt2 : D + 1 < W₂.heap.size := (Array.getElem?_eq_some_iff.1 hl2).1
      refine ⟨_, run_beginRound hl2 (by rw [hrec]), wpIn_mono (hbody _ _ rfl) ?_⟩
      have hl3 : (W₂.putObj (D + 1) (.loop { rec .ready none with state := .busy })).heap[D + 1]? = some (.loop { rec .ready none with state := .busy }) := World.putObj_heap_same hlt2
      have hd3 : (W₂.putObj (D + 1) (.loop { rec .ready none with state := .busy })).heap[D]? = some (.deferred (some [])) := (World.putObj_heap_other (by omega)).trans hd2
      have fin : ∀ (jump : Option Code) (W3 : World), Moved (fun k => ¬ U O k ∧ ¬ C k) (W₂.putObj (D + 1) (.loop { rec .ready none with state := .busy })) W3 →
          ∃ W4, W4 = W3.putObj (D + 1) (.loop (rec (if jump.isNone then .ready else .done) jump)) ∧ (Instr.endRound (D + 1) jump).run P W3 = .ok (.bool jump.isNone) W4 ∧ StepO D (U O) (U O) W3 W4 ∧
            W4.heap[D + 1]? = some (.loop (rec (if jump.isNone then .ready else .done) jump)) ∧ W4.heap[D]? = some (.deferred (some [])) ∧ Moved (fun k => ¬ O k ∧ ¬ C k) W W4 := fun jump W3 hk3 => by
        have hl4 := hk3.heap hl3 (fun h => h.1 hUL)
        have hd4 := hk3.heap hd3 (fun h => h.1 (.inr (.inl rfl)))
        have hr := run_endRound (P := P) jump hl4
        rw [hrec] at hr
        have m2 : Moved (fun k => ¬ O k ∧ ¬ C k) W W₂ := hk2.weaken (fun k _ h => ⟨fun ho => h.1 (.inl ho), h.2⟩)
        have m3 : Moved (fun k => ¬ O k ∧ ¬ C k) _ W3 := hk3.weaken (fun k _ h => ⟨fun ho => h.1 (.inl ho), h.2⟩)
        have hCL : ¬ C (D + 1) := fun h => by have := hC _ h; omega
        have mL : ∀ (X : World) (o : Obj), Moved (fun k => ¬ O k ∧ ¬ C k) X (X.putObj (D + 1) o) := fun X o => moved_putObjO X o ⟨hOL, hCL⟩
        have z2 := m2.size
        have z3 := m3.size
        have z4 : (W₂.putObj (D + 1) (.loop { rec .ready none with state := .busy })).heap.size = W₂.heap.size := by simp [World.putObj]
        exact ⟨_, rfl, by rw [hrec]; exact hr, hput O W3 _ _ (fun k hk => ⟨(hO k hk).1, by have := (hO k hk).2; omega⟩) hl4, World.putObj_heap_same (Array.getElem?_eq_some_iff.1 hl4).1, (World.putObj_heap_other (by omega)).trans hd4, 
          ((m2.trans (mL W₂ _) (fun _ _ h => h)).trans m3 (fun _ _ h => h)).trans (mL W3 _) (fun _ _ h => h)⟩
      rintro e a3 W3 hp
      cases e with
      | normal =>
        obtain ⟨W4, _, hr, hb4, hl4, hd4, hk4⟩ := fin none W3 hp.1
        exact ⟨_, _, hr, .inl ⟨rfl, hI _ _ _ _ _ hp.2 hb4, hl4, hd4⟩, hk4⟩
      | ret =>
        obtain ⟨W4, _, hr, hb4, hl4, hd4, hk4⟩ := fin (some .ret) W3 hp.1
        exact ⟨_, _, hr, .inr ⟨rfl, .ret, hIx _ _ _ _ _ _ hp.2 hb4, hl4, hd4⟩, hk4⟩
      | exit id =>
        obtain ⟨W4, _, hr, hb4, hl4, hd4, hk4⟩ := fin (some (.exit id)) W3 hp.1
        exact ⟨_, _, hr, .inr ⟨rfl, .exit id, hIx _ _ _ _ _ _ hp.2 hb4, hl4, hd4⟩, hk4⟩
      | goto t =>
        obtain ⟨W4, _, hr, hb4, hl4, hd4, hk4⟩ := fin (some (.goto t)) W3 hp.1
        exact ⟨_, _, hr, .inr ⟨rfl, .goto t, hIx _ _ _ _ _ _ hp.2 hb4, hl4, hd4⟩, hk4⟩
      | panic ch => exact hp.elim
      | outgrown => exact hp.elim
    intro e a₂ W₂ h
    cases e with
    | normal => exact step a₂ W₂ h
    | _ => exact h
  refine ⟨D + 1, [{ target := .collected D, args := #[] }], V, { target := .fn (.func gf) lb, args := #[.func (.yield (D + 1)) #[] #[]] }, V, gf, #[.func (.yield (D + 1)) #[] #[]] ++ lb, V, ?_, ?_, ?_, ?_, fun _ => h1, ?_⟩
  · exact hent
  · simp only [resolve, hg]
    simp [go_sem]
  · intro f' hf'; simp [Target.leads] at hf'; subst hf'; exact hFg
  · simp [invoke, go_sem, eg]
  · refine hcall.mono ?_
    rintro e W2 ⟨⟨v, rfl⟩, (⟨O, hO, hi, hl, hk⟩ | ⟨O, pre, hO, hSp, c, hi, hl, hk⟩)⟩
    · have hs := hput O W2 (.loop (rec .done none)) _ hO hl
      refine ⟨none, _, by have h9 := run_endLoop (P := P) hl (by rw [hrec]; simp); rw [hrec] at h9; exact h9, ?_⟩
      exact hdone D (U O) _ (Nat.le_refl _) (.inr (.inl rfl)) (fun k hk => by have := hown O W2 _ hO hl k hk; simpa [World.putObj] using this) (hI _ _ _ _ _ hi (hput O W2 _ _ hO hl)) ((World.putObj_heap_other (by omega)).trans hk)
    · refine ⟨some c, _, by have h9 := run_endLoop (P := P) hl (by rw [hrec]; simp); rw [hrec] at h9; exact h9, ?_⟩
      exact hstop D c (U O) pre _ (Nat.le_refl _) (.inr (.inl rfl)) (fun k hk => by have := hown O W2 _ hO hl k hk; simpa [World.putObj] using this) hSp (hIx c _ _ _ _ _ hi (hput O W2 _ _ hO hl)) ((World.putObj_heap_other (by omega)).trans hk)

set_option maxHeartbeats 1000000 in
theorem wpIn_rangeFunc_ON {α : Type} {g : Operand} {ps : Array Tmp} {assign body : Code} {Q : Exit → Act → World → Prop} {a : Act} {w : World} {l₀ : Nat} {r₀ : Loop}
    (hro : F.round = some l₀) (hl₀ : w.heap[l₀]? = some (.loop r₀)) (h1 : 1 ≤ n) {gf : Nat} {lb : Array Value} (hg : a.eval g = .func (.func gf) #[] lb) (hFg : F.fn gf) (eg : ∀ args w, (callFunc gf args).run P w = .ok (.enter gf args) w)
    {encs : α → Array Value} {C : Nat → Prop} {M : List α} {w0 : World} (hseq : SeqO F (n - 1) P gf lb encs C M w0) (hb0 : Below w0.heap.size w0 w) (hC : ∀ k, C k → k < w.heap.size) (hps : ∀ x, (encs x).size = ps.size)
    (I : (Nat → Prop) → List α → World → Prop) (Ix : Code → (Nat → Prop) → List α → World → Prop) (hI : AbidesO w.heap.size I) (hIx : ∀ c, AbidesO w.heap.size (Ix c)) (h0 : I (fun _ => False) [] w)
    (hround : ∀ (l : Nat) (O : Nat → Prop) (pre : List α) (x : α) (W : World), O l → OwnO w.heap.size O W → I O pre W → pre ++ [x] <+: M →
      assign.wpIn (F.inRound l) (n - 1 - 1) P (Exit.then (fun a₂ W₂ => Moved (fun k => ¬ O k ∧ ¬ C k) W W₂ ∧ ∀ (r : Loop) (W₃ : World), W₃ = W₂.putObj l (.loop r) → body.wpIn (F.inRound l) (n - 1 - 1) P (roundO I Ix O C (pre ++ [x]) W₃) a₂ W₃) (fun _ _ _ => False))
        { tmps := (ps.zip (encs x)).foldl (fun t (p, v) => t.setIfInBounds p v) a.tmps, defers := [] } W)
    (hdone : ∀ (O : Nat → Prop) (W : World), OwnO w.heap.size O W → I O M W → Q .normal a W)
    (hstop : ∀ (c : Code) (O : Nat → Prop) (pre : List α) (W : World), OwnO w.heap.size O W → pre <+: M → Ix c O pre W → c.wpIn F n P Q a W) :
    (Code.rangeFunc g ps assign body).wpIn F n P Q a w := by
  refine wpIn_rangeFunc (fun fn hfn => ?_)
  rw [hro]
  obtain ⟨D, hD⟩ : ∃ D, w.heap.size = D := ⟨_, rfl⟩
  rw [hD] at hI hround hdone hstop hC
  have hIx : ∀ c, AbidesO D (Ix c) := fun c => hD ▸ hIx c
  obtain ⟨rec, hrec⟩ : ∃ rec : LoopState → Option Code → Loop, rec = fun st pe => { state := st, pending := pe, fn, tmps := a.tmps, params := ps, assign, body, defers := r₀.defers } := ⟨_, rfl⟩
  obtain ⟨V, hV⟩ : ∃ V, V = w.alloc (.loop (rec .ready none)) := ⟨_, rfl⟩
  have hsz : V.heap.size = D + 1 := by rw [hV]; simp [hD]
  have mV : Moved (fun _ => False) w V := by rw [hV]; exact (Moved.refl _ w).alloc _
  have hBV : Below D w V := by rw [hV, ← hD]; exact (Below.refl _ w).alloc (Nat.le_refl _) _
  have kL : V.heap[D]? = some (.loop (rec .ready none)) := by rw [hV, ← hD]; exact World.alloc_heap_new w _
  have hent : (Instr.enterLoop fn a.tmps ps assign body (some l₀)).run P w = .ok (D, []) V := by
    rw [hV, hrec, ← hD]; exact run_enterLoop_inner hl₀ _ _ _ _ _
  -- the loop's own blocks with the iterator's
  let U : (Nat → Prop) → Nat → Prop := fun O k => O k ∨ k = D
  let J : (Nat → Prop) → List α → World → Prop := fun O pre W => I (U O) pre W ∧ W.heap[D]? = some (.loop (rec .ready none))
  let Jx : (Nat → Prop) → List α → World → Prop := fun O pre W => ∃ c, Ix c (U O) pre W ∧ W.heap[D]? = some (.loop (rec .done (some c)))
  have hown : ∀ (O : Nat → Prop) (W : World) (o : Obj), OwnO V.heap.size O W → W.heap[D]? = some o → OwnO D (U O) W := fun O W o ho hl k hk => by
    have hlt := heap_lt hl
    rcases hk with hk | hk
    · have := ho k hk; omega
    · omega
  have hstep : ∀ (O O' : Nat → Prop) (W W' : World) (o : Obj), W.heap[D]? = some o → StepO V.heap.size O O' W W' → StepO D (U O) (U O') W W' := fun O O' W W' o hl hs => by
    have hm := hs.moved
    have hl' : W'.heap[D]? = some o := hm.heap hl (fun hn => by have := (hs.own _ hn).1; omega)
    refine ⟨hown O W o hs.own hl, hm.weaken (fun k _ h => .inl h), hown O' W' o hs.own' hl', fun k hk => ?_⟩
    rcases hk with hk | hk
    · rcases hs.new k hk with h | h
      · exact .inl (.inl h)
      · exact .inr h
    · exact .inl (.inr hk)
  have hJ : AbidesO V.heap.size J := fun O O' s W W' h hs => by
    obtain ⟨h1, hl⟩ := h
    have hm := hs.moved
    exact ⟨hI _ _ _ _ _ h1 (hstep O O' W W' _ hl hs), hm.heap hl (fun hn => by have := (hs.own _ hn).1; omega)⟩
  have hJx : AbidesO V.heap.size Jx := fun O O' s W W' h hs => by
    obtain ⟨c, h1, hl⟩ := h
    have hm := hs.moved
    exact ⟨c, hIx c _ _ _ _ _ h1 (hstep O O' W W' _ hl hs), hm.heap hl (fun hn => by have := (hs.own _ hn).1; omega)⟩
  have hput : ∀ (O : Nat → Prop) (W : World) (o o' : Obj), OwnO V.heap.size O W → W.heap[D]? = some o' → StepO D (U O) (U O) W (W.putObj (D) o) := fun O W o o' ho hl =>
    step_same (hown O W o' ho hl) (moved_putObjO W o (by first | exact .inr rfl | exact .inr (.inr rfl)))
  have hcall : CallsIn F (n - 1) P gf (#[.func (.yield (D)) #[] #[]] ++ lb) V fun e W' => (∃ v, e = .returned v) ∧ ((∃ O, OwnO V.heap.size O W' ∧ J O M W') ∨ (∃ O pre, OwnO V.heap.size O W' ∧ pre <+: M ∧ Jx O pre W')) := by
    refine hseq (D) J Jx V (hb0.trans (hBV.mono (by have := hb0.size; omega))) hJ hJx ?_ ⟨hI _ _ _ _ _ h0 ⟨fun _ h => h.elim, mV, fun k hk => by
        rcases hk with hk | hk
        · exact hk.elim
        · omega, fun k hk => by
        rcases hk with hk | hk
        · exact hk.elim
        · exact .inr (by omega)⟩, kL⟩
    rintro O pre x W hO ⟨hi, hl⟩ hlen
    have hlt : D < W.heap.size := (Array.getElem?_eq_some_iff.1 hl).1
    have hUL : U O (D) := by first | exact .inr rfl | exact .inr (.inr rfl)
    have hOL : ¬ O (D) := fun h => by have := (hO _ h).1; omega
    have hy := run_yield (P := P) (args := encs x) hl (by rw [hrec]; exact hps x)
    rw [hrec] at hy
    refine ⟨fn, _, assign, body, hy, roundIn_of_wpIn hfn (wpIn_mono (hround (D) (U O) pre x W hUL (hown O W _ hO hl) hi hlen) ?_)⟩
    have step : ∀ (a₂ : Act) (W₂ : World), (Moved (fun k => ¬ U O k ∧ ¬ C k) W W₂ ∧ ∀ (r : Loop) (W₃ : World), W₃ = W₂.putObj (D) (.loop r) → body.wpIn (F.inRound (D)) (n - 1 - 1) P (roundO I Ix (U O) C (pre ++ [x]) W₃) a₂ W₃) →
        ∃ w₂, (Instr.beginRound (D)).run P W₂ = .ok () w₂ ∧ body.wpIn (F.inRound (D)) (n - 1 - 1) P (roundPost P (D) fun e W' => ((e = .returned (.bool true) ∧ J O (pre ++ [x]) W') ∨ (e = .returned (.bool false) ∧ Jx O (pre ++ [x]) W')) ∧ Moved (fun k => ¬ O k ∧ ¬ C k) W W') a₂ w₂ := by
      rintro a₂ W₂ ⟨hk2, hbody⟩
      have hl2 := hk2.heap hl (fun h => h.1 hUL)
      
      have hlt2 : D < W₂.heap.size := (Array.getElem?_eq_some_iff.1 hl2).1
      refine ⟨_, run_beginRound hl2 (by rw [hrec]), wpIn_mono (hbody _ _ rfl) ?_⟩
      have hl3 : (W₂.putObj (D) (.loop { rec .ready none with state := .busy })).heap[D]? = some (.loop { rec .ready none with state := .busy }) := World.putObj_heap_same hlt2
      
      have fin : ∀ (jump : Option Code) (W3 : World), Moved (fun k => ¬ U O k ∧ ¬ C k) (W₂.putObj (D) (.loop { rec .ready none with state := .busy })) W3 →
          ∃ W4, W4 = W3.putObj (D) (.loop (rec (if jump.isNone then .ready else .done) jump)) ∧ (Instr.endRound (D) jump).run P W3 = .ok (.bool jump.isNone) W4 ∧ StepO D (U O) (U O) W3 W4 ∧
            W4.heap[D]? = some (.loop (rec (if jump.isNone then .ready else .done) jump)) ∧ Moved (fun k => ¬ O k ∧ ¬ C k) W W4 := fun jump W3 hk3 => by
        have hl4 := hk3.heap hl3 (fun h => h.1 hUL)
        
        have hr := run_endRound (P := P) jump hl4
        rw [hrec] at hr
        have m2 : Moved (fun k => ¬ O k ∧ ¬ C k) W W₂ := hk2.weaken (fun k _ h => ⟨fun ho => h.1 (.inl ho), h.2⟩)
        have m3 : Moved (fun k => ¬ O k ∧ ¬ C k) _ W3 := hk3.weaken (fun k _ h => ⟨fun ho => h.1 (.inl ho), h.2⟩)
        have hCL : ¬ C (D) := fun h => by have := hC _ h; omega
        have mL : ∀ (X : World) (o : Obj), Moved (fun k => ¬ O k ∧ ¬ C k) X (X.putObj (D) o) := fun X o => moved_putObjO X o ⟨hOL, hCL⟩
        have z2 := m2.size
        have z3 := m3.size
        have z4 : (W₂.putObj (D) (.loop { rec .ready none with state := .busy })).heap.size = W₂.heap.size := by simp [World.putObj]
        exact ⟨_, rfl, by rw [hrec]; exact hr, hput O W3 _ _ (fun k hk => ⟨(hO k hk).1, by have := (hO k hk).2; omega⟩) hl4, World.putObj_heap_same (Array.getElem?_eq_some_iff.1 hl4).1, 
          ((m2.trans (mL W₂ _) (fun _ _ h => h)).trans m3 (fun _ _ h => h)).trans (mL W3 _) (fun _ _ h => h)⟩
      rintro e a3 W3 hp
      cases e with
      | normal =>
        obtain ⟨W4, _, hr, hb4, hl4, hk4⟩ := fin none W3 hp.1
        exact ⟨_, _, hr, .inl ⟨rfl, hI _ _ _ _ _ hp.2 hb4, hl4⟩, hk4⟩
      | ret =>
        obtain ⟨W4, _, hr, hb4, hl4, hk4⟩ := fin (some .ret) W3 hp.1
        exact ⟨_, _, hr, .inr ⟨rfl, .ret, hIx _ _ _ _ _ _ hp.2 hb4, hl4⟩, hk4⟩
      | exit id =>
        obtain ⟨W4, _, hr, hb4, hl4, hk4⟩ := fin (some (.exit id)) W3 hp.1
        exact ⟨_, _, hr, .inr ⟨rfl, .exit id, hIx _ _ _ _ _ _ hp.2 hb4, hl4⟩, hk4⟩
      | goto t =>
        obtain ⟨W4, _, hr, hb4, hl4, hk4⟩ := fin (some (.goto t)) W3 hp.1
        exact ⟨_, _, hr, .inr ⟨rfl, .goto t, hIx _ _ _ _ _ _ hp.2 hb4, hl4⟩, hk4⟩
      | panic ch => exact hp.elim
      | outgrown => exact hp.elim
    intro e a₂ W₂ h
    cases e with
    | normal => exact step a₂ W₂ h
    | _ => exact h
  refine ⟨D, [], V, { target := .fn (.func gf) lb, args := #[.func (.yield (D)) #[] #[]] }, V, gf, #[.func (.yield (D)) #[] #[]] ++ lb, V, ?_, ?_, ?_, ?_, fun _ => h1, ?_⟩
  · exact hent
  · simp only [resolve, hg]
    simp [go_sem]
  · intro f' hf'; simp [Target.leads] at hf'; subst hf'; exact hFg
  · simp [invoke, go_sem, eg]
  · refine hcall.mono ?_
    rintro e W2 ⟨⟨v, rfl⟩, (⟨O, hO, hi, hl⟩ | ⟨O, pre, hO, hSp, c, hi, hl⟩)⟩
    · have hs := hput O W2 (.loop (rec .done none)) _ hO hl
      refine ⟨none, _, by have h9 := run_endLoop (P := P) hl (by rw [hrec]; simp); rw [hrec] at h9; exact h9, ?_⟩
      exact hdone (U O) _ (fun k hk => by have := hown O W2 _ hO hl k hk; simpa [World.putObj] using this) (hI _ _ _ _ _ hi (hput O W2 _ _ hO hl))
    · refine ⟨some c, _, by have h9 := run_endLoop (P := P) hl (by rw [hrec]; simp); rw [hrec] at h9; exact h9, ?_⟩
      exact hstop c (U O) pre _ (fun k hk => by have := hown O W2 _ hO hl k hk; simpa [World.putObj] using this) hSp (hIx c _ _ _ _ _ hi (hput O W2 _ _ hO hl))

end Go
