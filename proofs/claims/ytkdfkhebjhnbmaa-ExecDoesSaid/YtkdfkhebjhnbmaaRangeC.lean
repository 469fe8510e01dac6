/- A range over an iterator that writes cells of its own between two rounds, where the rounds make blocks of their own: the iterator writes only what it laid before its first round, up to a bound M; a round writes all but that. -/
import Derived.RangeFuncFrom
import Derived.Test.YtkdfkhebjhnbmaaMoved
set_option linter.unusedVariables false
namespace Go
open Go.RowKit Go.Proofs.Ytkdfkhebjhnbmaa
variable {F : Fence} {n : Nat} {P : Program}

/-- What lies from block B on, up to M, lies as it lay. -/
abbrev KeepC (B M : Nat) (W W' : World) : Prop := Moved (fun k => ¬ (B ≤ k ∧ k < M)) W W'
theorem KeepC.at {B M k : Nat} {W W' : World} {o : Obj} (h : KeepC B M W W') (hB : B ≤ k) (hM : k < M) (ho : W.heap[k]? = some o) : W'.heap[k]? = some o := Moved.heap h ho (fun hn => hn ⟨hB, hM⟩)
theorem keepC_putObj {B M l : Nat} (W : World) (o : Obj) (hl : l < B) : KeepC B M W (W.putObj l o) := ⟨rfl, rfl, rfl, by simp [World.putObj], fun k hk hn => World.putObj_heap_other (fun e => hn (fun h => by omega))⟩
/-- A predicate that minds no change of blocks from B on, up to M. -/
def UpToC {β : Type} (B : Nat) (J : Nat → β → World → Prop) : Prop := ∀ M s W W', J M s W → Moved (fun k => B ≤ k ∧ k < M) W W' → J M s W'
/-- The contract of an iterator that may write what it has made. -/
def SeqC {α : Type} (F : Fence) (n : Nat) (P : Program) (g : Nat) (lb : Array Value) (encs : α → Array Value) (S Sp : List α → Prop) (N : Nat) (w : World) : Prop :=
  ∀ (l : Nat) (J Jx : Nat → List α → World → Prop) (W : World), Below w.heap.size w W → UpToC W.heap.size J → UpToC W.heap.size Jx →
    (∀ M pre x W1, W.heap.size ≤ M → M ≤ W1.heap.size → J M pre W1 → pre.length < N → YieldAt F (n - 1) P l (encs x) W1 fun e W' =>
      (e = .returned (.bool true) ∧ J M (pre ++ [x]) W' ∧ KeepC W.heap.size M W1 W') ∨ (e = .returned (.bool false) ∧ Jx M (pre ++ [x]) W')) →
    (∀ V, Below W.heap.size W V → J V.heap.size [] V) →
    CallsIn F n P g (#[.func (.yield l) #[] #[]] ++ lb) W fun e W' => (∃ v, e = .returned v) ∧ ((∃ M xs, W.heap.size ≤ M ∧ S xs ∧ J M xs W') ∨ (∃ M pre, W.heap.size ≤ M ∧ Sp pre ∧ Jx M pre W'))

/-- How a round's body may be left. -/
def roundC {α : Type} (B M : Nat) (I : Nat → List α → World → Prop) (Ix : Code → Nat → List α → World → Prop) (xs : List α) (W : World) : Exit → Act → World → Prop
  | .normal, _, W' => KeepC B M W W' ∧ I M xs W'
  | .ret, _, W' => KeepC B M W W' ∧ Ix .ret M xs W'
  | .exit id, _, W' => KeepC B M W W' ∧ Ix (.exit id) M xs W'
  | .goto t, _, W' => KeepC B M W W' ∧ Ix (.goto t) M xs W'
  | .panic _, _, _ => False
  | .outgrown, _, _ => False

theorem moved_putObjC {p : Nat → Prop} {l : Nat} (W : World) (o : Obj) (hl : p l) : Moved p W (W.putObj l o) :=
  ⟨rfl, rfl, rfl, by simp [World.putObj], fun k hk hn => World.putObj_heap_other (fun e => hn (e ▸ hl))⟩

set_option maxHeartbeats 1000000 in
theorem wpIn_rangeFunc_C {α : Type} {g : Operand} {ps : Array Tmp} {assign body : Code} {Q : Exit → Act → World → Prop} {a : Act} {w : World}
    (hro : F.round = none) (h1 : 1 ≤ n) {gf : Nat} {lb : Array Value} (hg : a.eval g = .func (.func gf) #[] lb) (hFg : F.fn gf) (eg : ∀ args w, (callFunc gf args).run P w = .ok (.enter gf args) w)
    {encs : α → Array Value} {S Sp : List α → Prop} {N : Nat} {w0 : World} (hseq : SeqC F (n - 1) P gf lb encs S Sp N w0) (hb0 : Below w0.heap.size w0 w) (hps : ∀ x, (encs x).size = ps.size)
    (I : Nat → List α → World → Prop) (Ix : Code → Nat → List α → World → Prop) (hI : UpToC w.heap.size I) (hIx : ∀ c, UpToC w.heap.size (Ix c)) (h0 : ∀ V, Below w.heap.size w V → I V.heap.size [] V)
    (hround : ∀ (l M : Nat) (pre : List α) (x : α) (W : World), w.heap.size ≤ l → l < M → M ≤ W.heap.size → I M pre W → pre.length < N →
      assign.wpIn (F.inRound l) (n - 1 - 1) P (Exit.then (fun a₂ W₂ => KeepC w.heap.size M W W₂ ∧ ∀ o : Obj, body.wpIn (F.inRound l) (n - 1 - 1) P (roundC w.heap.size M I Ix (pre ++ [x]) (W₂.putObj l o)) a₂ (W₂.putObj l o)) (fun _ _ _ => False))
        { tmps := (ps.zip (encs x)).foldl (fun t (p, v) => t.setIfInBounds p v) a.tmps, defers := [] } W)
    (hdone : ∀ (D M : Nat) (xs : List α) (W : World), w.heap.size ≤ D → S xs → I M xs W → W.heap[D]? = some (.deferred (some [])) → Q .normal { a with defers := { target := .collected D, args := #[] } :: a.defers } W)
    (hstop : ∀ (D M : Nat) (c : Code) (pre : List α) (W : World), w.heap.size ≤ D → Sp pre → Ix c M pre W → W.heap[D]? = some (.deferred (some [])) → c.wpIn F n P Q { a with defers := { target := .collected D, args := #[] } :: a.defers } W) :
    (Code.rangeFunc g ps assign body).wpIn F n P Q a w := by
  refine wpIn_rangeFunc (fun fn hfn => ?_)
  rw [hro]
  -- the two blocks that the statement lays: the rounds' deferred calls at D, the loop's record at L
  obtain ⟨D, hD⟩ : ∃ D, w.heap.size = D := ⟨_, rfl⟩
  rw [hD] at hI hround hdone hstop h0
  have hIx : ∀ c, UpToC D (Ix c) := fun c => hD ▸ hIx c
  obtain ⟨rec, hrec⟩ : ∃ rec : LoopState → Option Code → Loop, rec = fun st pe => { state := st, pending := pe, fn, tmps := a.tmps, params := ps, assign, body, defers := D } := ⟨_, rfl⟩
  obtain ⟨V, hV⟩ : ∃ V, V = (w.alloc (.deferred (some []))).alloc (.loop (rec .ready none)) := ⟨_, rfl⟩
  have hsz : V.heap.size = D + 2 := by rw [hV]; simp [hD]
  have hBV : Below D w V := by rw [hV, ← hD]; exact (((Below.refl _ w).alloc (Nat.le_refl _) _).alloc (by simp) _)
  have kD : V.heap[D]? = some (.deferred (some [])) := by
    rw [hV, ← hD]; exact (Below.heap_alloc _ _ _ (by simp)).trans (World.alloc_heap_new w _)
  have kL : V.heap[D + 1]? = some (.loop (rec .ready none)) := by
    rw [hV, ← hD]; have h9 := World.alloc_heap_new (w.alloc (.deferred (some []))) (.loop (rec .ready none)); rwa [World.size_alloc] at h9
  have hent : (Instr.enterLoop fn a.tmps ps assign body none).run P w = .ok (D + 1, [{ target := .collected D, args := #[] }]) V := by
    rw [hV, hrec, ← hD]; exact run_enterLoop_outer _ _ _ _ _
  -- what holds between two rounds, and where a round has left
  let J : Nat → List α → World → Prop := fun M pre W => I M pre W ∧ W.heap[D + 1]? = some (.loop (rec .ready none)) ∧ W.heap[D]? = some (.deferred (some []))
  let Jx : Nat → List α → World → Prop := fun M pre W => ∃ c, Ix c M pre W ∧ W.heap[D + 1]? = some (.loop (rec .done (some c))) ∧ W.heap[D]? = some (.deferred (some []))
  have hJ : UpToC V.heap.size J := fun M s W W' h hb => ⟨hI M s W W' h.1 (hb.weaken (fun k _ h => ⟨by omega, h.2⟩)), hb.heap h.2.1 (by omega), hb.heap h.2.2 (by omega)⟩
  have hJx : UpToC V.heap.size Jx := fun M s W W' h hb => by
    obtain ⟨c, h1, h2, h3⟩ := h
    exact ⟨c, hIx c M s W W' h1 (hb.weaken (fun k _ h => ⟨by omega, h.2⟩)), hb.heap h2 (by omega), hb.heap h3 (by omega)⟩
  have hput : ∀ (M : Nat) (W : World) (o : Obj), V.heap.size ≤ M → Moved (fun k => D ≤ k ∧ k < M) W (W.putObj (D + 1) o) := fun M W o hM => moved_putObjC W o ⟨by omega, by omega⟩
  have hcall : CallsIn F (n - 1) P gf (#[.func (.yield (D + 1)) #[] #[]] ++ lb) V fun e W' => (∃ v, e = .returned v) ∧ ((∃ M xs, V.heap.size ≤ M ∧ S xs ∧ J M xs W') ∨ (∃ M pre, V.heap.size ≤ M ∧ Sp pre ∧ Jx M pre W')) := by
    refine hseq (D + 1) J Jx V (hb0.trans (hBV.mono (by have := hb0.size; omega))) hJ hJx ?_ (fun U hU => ⟨h0 U (hBV.trans (hU.mono (by omega))), (hU.block _ (by omega)).trans kL, (hU.block _ (by omega)).trans kD⟩)
    rintro M pre x W hM hMW ⟨hi, hl, hk⟩ hlen
    have hlt : D + 1 < W.heap.size := (Array.getElem?_eq_some_iff.1 hl).1
    have hy := run_yield (P := P) (args := encs x) hl (by rw [hrec]; exact hps x)
    rw [hrec] at hy
    refine ⟨fn, _, assign, body, hy, roundIn_of_wpIn hfn (wpIn_mono (hround (D + 1) M pre x W (by omega) (by omega) hMW hi hlen) ?_)⟩
    -- from the end of the assignment on
    have step : ∀ (a₂ : Act) (W₂ : World), (KeepC D M W W₂ ∧ ∀ o : Obj, body.wpIn (F.inRound (D + 1)) (n - 1 - 1) P (roundC D M I Ix (pre ++ [x]) (W₂.putObj (D + 1) o)) a₂ (W₂.putObj (D + 1) o)) →
        ∃ w₂, (Instr.beginRound (D + 1)).run P W₂ = .ok () w₂ ∧ body.wpIn (F.inRound (D + 1)) (n - 1 - 1) P (roundPost P (D + 1) fun e W' => (e = .returned (.bool true) ∧ J M (pre ++ [x]) W' ∧ KeepC V.heap.size M W W') ∨ (e = .returned (.bool false) ∧ Jx M (pre ++ [x]) W')) a₂ w₂ := by
      rintro a₂ W₂ ⟨hk2, hbody⟩
      have hl2 := hk2.at (by omega) (by omega) hl
      have hd2 := hk2.at (by omega) (by omega) hk
      have hlt2 : D + 1 < W₂.heap.size := (Array.getElem?_eq_some_iff.1 hl2).1
      refine ⟨_, run_beginRound hl2 (by rw [hrec]), wpIn_mono (hbody _) ?_⟩
      have hl3 : (W₂.putObj (D + 1) (.loop { rec .ready none with state := .busy })).heap[D + 1]? = some (.loop { rec .ready none with state := .busy }) := World.putObj_heap_same hlt2
      have hd3 : (W₂.putObj (D + 1) (.loop { rec .ready none with state := .busy })).heap[D]? = some (.deferred (some [])) := (World.putObj_heap_other (by omega)).trans hd2
      -- the end of a round, whichever way
      have fin : ∀ (jump : Option Code) (W3 : World), KeepC D M (W₂.putObj (D + 1) (.loop { rec .ready none with state := .busy })) W3 →
          ∃ W4, W4 = W3.putObj (D + 1) (.loop (rec (if jump.isNone then .ready else .done) jump)) ∧ (Instr.endRound (D + 1) jump).run P W3 = .ok (.bool jump.isNone) W4 ∧ Moved (fun k => D ≤ k ∧ k < M) W3 W4 ∧
            W4.heap[D + 1]? = some (.loop (rec (if jump.isNone then .ready else .done) jump)) ∧ W4.heap[D]? = some (.deferred (some [])) ∧ KeepC V.heap.size M W W4 := fun jump W3 hk3 => by
        have hl4 := hk3.at (by omega) (by omega) hl3
        have hd4 := hk3.at (by omega) (by omega) hd3
        have hr := run_endRound (P := P) jump hl4
        rw [hrec] at hr
        refine ⟨_, rfl, by rw [hrec]; exact hr, hput M _ _ hM, World.putObj_heap_same (Array.getElem?_eq_some_iff.1 hl4).1, (World.putObj_heap_other (by omega)).trans hd4, ?_⟩
        have m2 : KeepC V.heap.size M W W₂ := Moved.weaken hk2 (fun k _ h => by omega)
        have m3 : KeepC V.heap.size M _ W3 := Moved.weaken hk3 (fun k _ h => by omega)
        exact ((m2.trans (keepC_putObj W₂ _ (by omega)) (fun _ _ h => h)).trans m3 (fun _ _ h => h)).trans (keepC_putObj W3 _ (by omega)) (fun _ _ h => h)
      rintro e a3 W3 hp
      cases e with
      | normal =>
        obtain ⟨W4, _, hr, hb4, hl4, hd4, hk4⟩ := fin none W3 hp.1
        exact ⟨_, _, hr, .inl ⟨rfl, ⟨hI _ _ _ _ hp.2 hb4, hl4, hd4⟩, hk4⟩⟩
      | ret =>
        obtain ⟨W4, _, hr, hb4, hl4, hd4, hk4⟩ := fin (some .ret) W3 hp.1
        exact ⟨_, _, hr, .inr ⟨rfl, .ret, hIx _ _ _ _ _ hp.2 hb4, hl4, hd4⟩⟩
      | exit id =>
        obtain ⟨W4, _, hr, hb4, hl4, hd4, hk4⟩ := fin (some (.exit id)) W3 hp.1
        exact ⟨_, _, hr, .inr ⟨rfl, .exit id, hIx _ _ _ _ _ hp.2 hb4, hl4, hd4⟩⟩
      | goto t =>
        obtain ⟨W4, _, hr, hb4, hl4, hd4, hk4⟩ := fin (some (.goto t)) W3 hp.1
        exact ⟨_, _, hr, .inr ⟨rfl, .goto t, hIx _ _ _ _ _ hp.2 hb4, hl4, hd4⟩⟩
      | panic ch => exact hp.elim
      | outgrown => exact hp.elim
    intro e a₂ W₂ h
    cases e with
    | normal => exact step a₂ W₂ h
    | _ => exact h
  refine ⟨D + 1, [{ target := .collected D, args := #[] }], V, { target := .fn (.func gf) lb, args := #[.func (.yield (D + 1)) #[] #[]] }, V, gf, #[.func (.yield (D + 1)) #[] #[]] ++ lb, V, ?_, ?_, ?_, ?_, fun _ => h1, ?_⟩
  · exact hent
  · simp only [resolve, hg]
    simp [go_sem]
  · intro f' hf'; simp [Target.leads] at hf'; subst hf'; exact hFg
  · simp [invoke, go_sem, eg]
  · refine hcall.mono ?_
    rintro e W2 ⟨⟨v, rfl⟩, (⟨M, xs, hM, hS, hi, hl, hk⟩ | ⟨M, pre, hM, hSp, c, hi, hl, hk⟩)⟩
    · exact ⟨none, _, by have h9 := run_endLoop (P := P) hl (by rw [hrec]; simp); rw [hrec] at h9; exact h9, hdone _ M xs _ (Nat.le_refl _) hS (hI _ _ _ _ hi (hput M _ _ hM)) ((World.putObj_heap_other (by omega)).trans hk)⟩
    · exact ⟨some c, _, by have h9 := run_endLoop (P := P) hl (by rw [hrec]; simp); rw [hrec] at h9; exact h9, hstop _ M c pre _ (Nat.le_refl _) hSp (hIx c _ _ _ _ hi (hput M _ _ hM)) ((World.putObj_heap_other (by omega)).trans hk)⟩
end Go
