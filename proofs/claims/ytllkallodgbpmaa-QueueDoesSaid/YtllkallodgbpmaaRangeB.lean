/- A range over an iterator that writes cells of its own between two rounds: the caller's invariant speaks of what lay before the loop, the iterator changes only what it made. -/
import Derived.RangeFuncFrom
import Derived.Test.YtllkallodgbpmaaMoved
set_option linter.unusedVariables false
namespace Go
open Go.RowKit Go.Proofs.Ytllkallodgbpmaa
variable {F : Fence} {n : Nat} {P : Program}

/-- What lies from block B on, and lay there, lies as it lay. -/
abbrev KeepB (B : Nat) (W W' : World) : Prop := Moved (fun k => k < B) W W'
theorem KeepB.at {B k : Nat} {W W' : World} {o : Obj} (h : KeepB B W W') (hB : B ≤ k) (ho : W.heap[k]? = some o) : W'.heap[k]? = some o := Moved.heap h ho (by omega)
theorem keep_putObj {B l : Nat} (W : World) (o : Obj) (hl : l < B) : KeepB B W (W.putObj l o) := ⟨rfl, rfl, rfl, by simp [World.putObj], fun k hk hn => World.putObj_heap_other (by omega)⟩
/-- A predicate that minds no change from block B on. -/
def UpTo {β : Type} (B : Nat) (J : β → World → Prop) : Prop := ∀ s W W', J s W → Below B W W' → J s W'
/-- The contract of an iterator that may write what it has made. -/
def SeqB {α : Type} (F : Fence) (n : Nat) (P : Program) (g : Nat) (lb : Array Value) (encs : α → Array Value) (S Sp : List α → Prop) (N : Nat) (w : World) : Prop :=
  ∀ (l : Nat) (J Jx : List α → World → Prop) (W : World), Below w.heap.size w W → UpTo W.heap.size J → UpTo W.heap.size Jx →
    (∀ pre x W1, J pre W1 → pre.length < N → YieldAt F (n - 1) P l (encs x) W1 fun e W' =>
      (e = .returned (.bool true) ∧ J (pre ++ [x]) W' ∧ KeepB W.heap.size W1 W') ∨ (e = .returned (.bool false) ∧ Jx (pre ++ [x]) W')) →
    J [] W →
    CallsIn F n P g (#[.func (.yield l) #[] #[]] ++ lb) W fun e W' => (∃ v, e = .returned v) ∧ ((∃ xs, S xs ∧ J xs W') ∨ (∃ pre, Sp pre ∧ Jx pre W'))

/-- How a round's body may be left. -/
def roundB {α : Type} (B : Nat) (I : List α → World → Prop) (Ix : Code → List α → World → Prop) (xs : List α) (W : World) : Exit → Act → World → Prop
  | .normal, _, W' => KeepB B W W' ∧ I xs W'
  | .ret, _, W' => KeepB B W W' ∧ Ix .ret xs W'
  | .exit id, _, W' => KeepB B W W' ∧ Ix (.exit id) xs W'
  | .goto t, _, W' => KeepB B W W' ∧ Ix (.goto t) xs W'
  | .panic _, _, _ => False
  | .outgrown, _, _ => False

theorem below_putObj {B l : Nat} (W : World) (o : Obj) (hl : B ≤ l) : Below B W (W.putObj l o) :=
  ⟨rfl, rfl, rfl, by simp [World.putObj], fun k hk => World.putObj_heap_other (by omega)⟩

set_option maxHeartbeats 1000000 in
theorem wpIn_rangeFunc_B {α : Type} {g : Operand} {ps : Array Tmp} {assign body : Code} {Q : Exit → Act → World → Prop} {a : Act} {w : World}
    (hro : F.round = none) (h1 : 1 ≤ n) {gf : Nat} {lb : Array Value} (hg : a.eval g = .func (.func gf) #[] lb) (hFg : F.fn gf) (eg : ∀ args w, (callFunc gf args).run P w = .ok (.enter gf args) w)
    {encs : α → Array Value} {S Sp : List α → Prop} {N : Nat} {w0 : World} (hseq : SeqB F (n - 1) P gf lb encs S Sp N w0) (hb0 : Below w0.heap.size w0 w) (hps : ∀ x, (encs x).size = ps.size)
    (I : List α → World → Prop) (Ix : Code → List α → World → Prop) (hI : UpTo w.heap.size I) (hIx : ∀ c, UpTo w.heap.size (Ix c)) (h0 : I [] w)
    (hround : ∀ (l : Nat) (pre : List α) (x : α) (W : World), w.heap.size ≤ l → l < W.heap.size → I pre W → pre.length < N →
      assign.wpIn (F.inRound l) (n - 1 - 1) P (Exit.then (fun a₂ W₂ => KeepB w.heap.size W W₂ ∧ ∀ o : Obj, body.wpIn (F.inRound l) (n - 1 - 1) P (roundB w.heap.size I Ix (pre ++ [x]) (W₂.putObj l o)) a₂ (W₂.putObj l o)) (fun _ _ _ => False))
        { tmps := (ps.zip (encs x)).foldl (fun t (p, v) => t.setIfInBounds p v) a.tmps, defers := [] } W)
    (hdone : ∀ (D : Nat) (xs : List α) (W : World), w.heap.size ≤ D → S xs → I xs W → W.heap[D]? = some (.deferred (some [])) → Q .normal { a with defers := { target := .collected D, args := #[] } :: a.defers } W)
    (hstop : ∀ (D : Nat) (c : Code) (pre : List α) (W : World), w.heap.size ≤ D → Sp pre → Ix c pre W → W.heap[D]? = some (.deferred (some [])) → c.wpIn F n P Q { a with defers := { target := .collected D, args := #[] } :: a.defers } W) :
    (Code.rangeFunc g ps assign body).wpIn F n P Q a w := by
  refine wpIn_rangeFunc (fun fn hfn => ?_)
  rw [hro]
  -- the two blocks that the statement lays: the rounds' deferred calls at D, the loop's record at L
  obtain ⟨D, hD⟩ : ∃ D, w.heap.size = D := ⟨_, rfl⟩
  rw [hD] at hI hround hdone hstop
  have hIx : ∀ c, UpTo D (Ix c) := fun c => hD ▸ hIx c
  obtain ⟨rec, hrec⟩ : ∃ rec : LoopState → Option Code → Loop, rec = fun st pe => { state := st, pending := pe, fn, tmps := a.tmps, params := ps, assign, body, defers := D } := ⟨_, rfl⟩
  obtain ⟨V, hV⟩ : ∃ V, V = (w.alloc (.deferred (some []))).alloc (.loop (rec .ready none)) := ⟨_, rfl⟩
  have hsz : V.heap.size = D + 2 := by rw [hV]; simp [hD]
  have hBV : Below D w V := by rw [hV, ← hD]; exact (((Below.refl _ w).alloc (Nat.le_refl _) _).alloc (by simp) _)
  have kD : V.heap[D]? = some (.deferred (some [])) := by
    rw [hV, ← hD]; exact (Below.heap_alloc _ _ _ (by simp)).trans (World.alloc_heap_new w _)
  have kL : V.heap[D + 1]? = some (.loop (rec .ready none)) := by
    rw [hV, ← hD]; have h9 := World.alloc_heap_new (w.alloc (.deferred (some []))) (.loop (rec .ready none)); rwa [World.size_alloc] at h9
  have hent : (Instr.enterLoop fn a.tmps ps assign body none).run P w = .ok (D + 1, [{ target := .collected D, args := #[] }]) V := by
    rw [hV, hrec, ← hD]; exact run_enterLoop_outer _ _ _ _ _
  -- what holds between two rounds, and where a round has left
  let J : List α → World → Prop := fun pre W => I pre W ∧ W.heap[D + 1]? = some (.loop (rec .ready none)) ∧ W.heap[D]? = some (.deferred (some []))
  let Jx : List α → World → Prop := fun pre W => ∃ c, Ix c pre W ∧ W.heap[D + 1]? = some (.loop (rec .done (some c))) ∧ W.heap[D]? = some (.deferred (some []))
  have hJ : UpTo V.heap.size J := fun s W W' h hb => ⟨hI s W W' h.1 (hb.mono (by omega)), (hb.block _ (by omega)).trans h.2.1, (hb.block _ (by omega)).trans h.2.2⟩
  have hJx : UpTo V.heap.size Jx := fun s W W' h hb => by
    obtain ⟨c, h1, h2, h3⟩ := h
    exact ⟨c, hIx c s W W' h1 (hb.mono (by omega)), (hb.block _ (by omega)).trans h2, (hb.block _ (by omega)).trans h3⟩
  have hput : ∀ (W : World) (o : Obj), Below D W (W.putObj (D + 1) o) := fun W o => below_putObj W o (by omega)
  have hcall : CallsIn F (n - 1) P gf (#[.func (.yield (D + 1)) #[] #[]] ++ lb) V fun e W' => (∃ v, e = .returned v) ∧ ((∃ xs, S xs ∧ J xs W') ∨ (∃ pre, Sp pre ∧ Jx pre W')) := by
    refine hseq (D + 1) J Jx V (hb0.trans (hBV.mono (by have := hb0.size; omega))) hJ hJx ?_ ⟨hI _ _ _ h0 hBV, kL, kD⟩
    rintro pre x W ⟨hi, hl, hk⟩ hlen
    have hlt : D + 1 < W.heap.size := (Array.getElem?_eq_some_iff.1 hl).1
    have hy := run_yield (P := P) (args := encs x) hl (by rw [hrec]; exact hps x)
    rw [hrec] at hy
    refine ⟨fn, _, assign, body, hy, roundIn_of_wpIn hfn (wpIn_mono (hround (D + 1) pre x W (by omega) hlt hi hlen) ?_)⟩
    -- from the end of the assignment on
    have step : ∀ (a₂ : Act) (W₂ : World), (KeepB D W W₂ ∧ ∀ o : Obj, body.wpIn (F.inRound (D + 1)) (n - 1 - 1) P (roundB D I Ix (pre ++ [x]) (W₂.putObj (D + 1) o)) a₂ (W₂.putObj (D + 1) o)) →
        ∃ w₂, (Instr.beginRound (D + 1)).run P W₂ = .ok () w₂ ∧ body.wpIn (F.inRound (D + 1)) (n - 1 - 1) P (roundPost P (D + 1) fun e W' => (e = .returned (.bool true) ∧ J (pre ++ [x]) W' ∧ KeepB V.heap.size W W') ∨ (e = .returned (.bool false) ∧ Jx (pre ++ [x]) W')) a₂ w₂ := by
      rintro a₂ W₂ ⟨hk2, hbody⟩
      have hl2 := hk2.at (by omega) hl
      have hd2 := hk2.at (by omega) hk
      have hlt2 : D + 1 < W₂.heap.size := (Array.getElem?_eq_some_iff.1 hl2).1
      refine ⟨_, run_beginRound hl2 (by rw [hrec]), wpIn_mono (hbody _) ?_⟩
      have hl3 : (W₂.putObj (D + 1) (.loop { rec .ready none with state := .busy })).heap[D + 1]? = some (.loop { rec .ready none with state := .busy }) := World.putObj_heap_same hlt2
      have hd3 : (W₂.putObj (D + 1) (.loop { rec .ready none with state := .busy })).heap[D]? = some (.deferred (some [])) := (World.putObj_heap_other (by omega)).trans hd2
      -- the end of a round, whichever way
      have fin : ∀ (jump : Option Code) (W3 : World), KeepB D (W₂.putObj (D + 1) (.loop { rec .ready none with state := .busy })) W3 →
          ∃ W4, W4 = W3.putObj (D + 1) (.loop (rec (if jump.isNone then .ready else .done) jump)) ∧ (Instr.endRound (D + 1) jump).run P W3 = .ok (.bool jump.isNone) W4 ∧ Below D W3 W4 ∧
            W4.heap[D + 1]? = some (.loop (rec (if jump.isNone then .ready else .done) jump)) ∧ W4.heap[D]? = some (.deferred (some [])) ∧ KeepB V.heap.size W W4 := fun jump W3 hk3 => by
        have hl4 := hk3.at (by omega) hl3
        have hd4 := hk3.at (by omega) hd3
        have hr := run_endRound (P := P) jump hl4
        rw [hrec] at hr
        refine ⟨_, rfl, by rw [hrec]; exact hr, hput _ _, World.putObj_heap_same (Array.getElem?_eq_some_iff.1 hl4).1, (World.putObj_heap_other (by omega)).trans hd4, ?_⟩
        have m2 : KeepB V.heap.size W W₂ := Moved.weaken hk2 (fun k _ h => by omega)
        have m3 : KeepB V.heap.size _ W3 := Moved.weaken hk3 (fun k _ h => by omega)
        exact ((m2.trans (keep_putObj W₂ _ (by omega)) (fun _ _ h => h)).trans m3 (fun _ _ h => h)).trans (keep_putObj W3 _ (by omega)) (fun _ _ h => h)
      rintro e a3 W3 hp
      cases e with
      | normal =>
        obtain ⟨W4, _, hr, hb4, hl4, hd4, hk4⟩ := fin none W3 hp.1
        exact ⟨_, _, hr, .inl ⟨rfl, ⟨hI _ _ _ hp.2 hb4, hl4, hd4⟩, hk4⟩⟩
      | ret =>
        obtain ⟨W4, _, hr, hb4, hl4, hd4, hk4⟩ := fin (some .ret) W3 hp.1
        exact ⟨_, _, hr, .inr ⟨rfl, .ret, hIx _ _ _ _ hp.2 hb4, hl4, hd4⟩⟩
      | exit id =>
        obtain ⟨W4, _, hr, hb4, hl4, hd4, hk4⟩ := fin (some (.exit id)) W3 hp.1
        exact ⟨_, _, hr, .inr ⟨rfl, .exit id, hIx _ _ _ _ hp.2 hb4, hl4, hd4⟩⟩
      | goto t =>
        obtain ⟨W4, _, hr, hb4, hl4, hd4, hk4⟩ := fin (some (.goto t)) W3 hp.1
        exact ⟨_, _, hr, .inr ⟨rfl, .goto t, hIx _ _ _ _ hp.2 hb4, hl4, hd4⟩⟩
      | panic ch => exact hp.elim
      | outgrown => exact hp.elim
    intro e a₂ W₂ h
    cases e with
    | normal => exact step a₂ W₂ h
    | _ => exact h
  refine ⟨D + 1, [{ target := .collected D, args := #[] }], V, { target := .fn (.func gf) lb, args := #[.func (.yield (D + 1)) #[] #[]] }, V, gf, #[.func (.yield (D + 1)) #[] #[]] ++ lb, V, ?_, ?_, ?_, ?_, fun _ => h1, ?_⟩
  · exact hent
  · simp only [resolve, hg]
    simp [go_sem]
  · intro f' hf'; simp [Target.leads] at hf'; subst hf'; exact hFg
  · simp [invoke, go_sem, eg]
  · refine hcall.mono ?_
    rintro e W2 ⟨⟨v, rfl⟩, (⟨xs, hS, hi, hl, hk⟩ | ⟨pre, hSp, c, hi, hl, hk⟩)⟩
    · exact ⟨none, _, by have h9 := run_endLoop (P := P) hl (by rw [hrec]; simp); rw [hrec] at h9; exact h9, hdone _ xs _ (Nat.le_refl _) hS (hI _ _ _ hi (hput _ _)) ((World.putObj_heap_other (by omega)).trans hk)⟩
    · exact ⟨some c, _, by have h9 := run_endLoop (P := P) hl (by rw [hrec]; simp); rw [hrec] at h9; exact h9, hstop _ c pre _ (Nat.le_refl _) hSp (hIx c _ _ _ hi (hput _ _)) ((World.putObj_heap_other (by omega)).trans hk)⟩
end Go
