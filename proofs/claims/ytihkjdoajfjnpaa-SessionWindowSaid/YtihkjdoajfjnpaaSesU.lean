/- The laws' Do, all acts in one; what it keeps. -/
import Derived.Test.YtihkjdoajfjnpaaSesT0
import Derived.Test.YtihkjdoajfjnpaaSesT1
import Derived.Test.YtihkjdoajfjnpaaSesT3
import Derived.Test.YtihkjdoajfjnpaaSesT4
import Derived.Test.YtihkjdoajfjnpaaSesT5
import Derived.Test.YtihkjdoajfjnpaaSesT6
import Derived.Test.YtihkjdoajfjnpaaSesT7
set_option linter.unusedSimpArgs false
set_option linter.unusedVariables false
namespace Go.Ses
theorem letGo_puts (l : Link) (u : Int) : (letGo l u).puts = l.puts := by unfold letGo; split <;> rfl
theorem freshL_puts (s : Ss) (e : Ev) : (freshL s e).puts ≤ s.l.puts := by unfold freshL; split <;> simp [newL]
theorem takeS_puts (l : Link) (q : Int) (b : Bytes) : (takeS l q b).2.puts ≤ l.puts + 1 := by
  unfold takeS; split
  · exact Nat.le_succ _
  · exact Nat.le_refl _
theorem onS_puts (s : Ss) (e : Ev) : (onS s e).2.l.puts ≤ s.l.puts + 1 := by
  have hf := freshL_puts s e
  unfold onS
  repeat' split
  · exact Nat.le_succ _
  · exact Nat.le_succ _
  · exact Nat.le_trans hf (Nat.le_succ _)
  · exact Nat.le_trans hf (Nat.le_succ _)
  · show (letGo _ _).puts ≤ _
    rw [letGo_puts]; exact Nat.le_trans hf (Nat.le_succ _)
  · refine Nat.le_trans (takeS_puts _ _ _) ?_
    rw [letGo_puts]; exact Nat.add_le_add_right hf 1
theorem tickS_puts (s : Ss) (now : Int) : (tickS s now).l.puts = s.l.puts := by
  unfold tickS
  have h1 := (helloL_out now s.l).2.2.2.2.2.2.2.2
  split
  · show (outL s.mine now (helloL now s.l)).puts = _
    show (firstL now (againL now (actL now (helloL now s.l)))).puts = _
    rw [(firstL_out now _).2.2.2.2.2.2.2.2, (againL_out now _).2.2.2.2.2.2.2.2, (actL_out now _).2.2.2.2.2.2.2.2, h1]
  · exact h1
theorem sendS_puts (s : Ss) (b : Bytes) : (sendS s b).2.l.puts = s.l.puts := by
  unfold sendS
  split
  · rfl
  · split
    · rfl
    · split
      · rfl
      · rfl
end Go.Ses
namespace Go.Proofs.Ytihkjdoajfjnpaa
open Go.ChangeShapes Go.WideShapes Go.ChangeAt Go.RowKit Go.Base Go.Ses

theorem small_in {N : Nat} {x : Side} (h : Small N x) (hN : N + 1 ≤ 1000) (e : Ev) : Small (N + 1) (inS x e) := by
  obtain ⟨h1, h2, h3, h4⟩ := h
  refine ⟨by show x.q.length ≤ _; omega, ?_, Nat.le_trans (onS_puts _ _) (by omega), hN⟩
  show (if (onS x.ss e).1.2.1 then [] else x.sent).length ≤ N + 1
  split
  · exact Nat.zero_le _
  · omega
theorem small_out {N : Nat} {x : Side} (h : Small N x) (i : Nat) : Small N (outQ x i) := by
  obtain ⟨h1, h2, h3, h4⟩ := h
  refine ⟨?_, h2, h3, h4⟩
  show (x.q.take i ++ x.q.drop (i + 1)).length ≤ _
  rw [List.length_append, List.length_take, List.length_drop]; omega
theorem small_up {N : Nat} {x : Side} (h : Small N x) (hN : N + 1 ≤ 1000) : Small (N + 1) x := by
  obtain ⟨h1, h2, h3, h4⟩ := h
  exact ⟨by omega, by omega, by omega, hN⟩
theorem small_do {N : Nat} {x y : Side} (hx : Small N x) (hy : Small N y) (hN : N + 1 ≤ 1000) (hf : x.ss.l.out.length ≤ 64) (k now : Int) (b : Bytes) : Small (N + 1) (doS k now b x y).1 ∧ Small (N + 1) (doS k now b x y).2 := by
  have ux := small_up hx hN
  have uy := small_up hy hN
  unfold doS
  split
  · refine ⟨⟨ux.1, ?_, ?_, hN⟩, uy⟩
    · show (if (sendS x.ss b).1 = 0 then x.sent ++ [b] else x.sent).length ≤ N + 1
      have := hx.2.1
      split
      · rw [List.length_append, List.length_singleton]; omega
      · omega
    · show (sendS x.ss b).2.l.puts ≤ _
      rw [sendS_puts]; exact ux.2.2.1
  · split
    · refine ⟨⟨ux.1, ux.2.1, ?_, hN⟩, ⟨?_, uy.2.1, uy.2.2.1, hN⟩⟩
      · show (tickS x.ss now).l.puts ≤ _
        rw [tickS_puts]; exact ux.2.2.1
      · show (y.q ++ tickE x.ss now).length ≤ _
        have := tickE_len x.ss now hf
        have := hy.1
        rw [List.length_append]; omega
    · split
      · split
        · exact ⟨ux, uy⟩
        · split
          · exact ⟨small_up (small_out hx _) hN, uy⟩
          · split
            · exact ⟨small_in hx hN _, uy⟩
            · exact ⟨small_in (small_out hx _) hN _, uy⟩
      · split
        · split
          · exact ⟨ux, uy⟩
          · exact ⟨⟨ux.1, Nat.zero_le _, Nat.zero_le _, hN⟩, uy⟩
        · exact ⟨ux, uy⟩
/-- A pair of sessions as scripts leave it. -/
structure Bun (B : Nat) (w : World) (pp : Nat) (X : Nat → Side) (N : Nat) : Prop where
  pair : PairS B w pp X
  inv : Inv (X 0) (X 1)
  small : ∀ i, i < 2 → Small N (X i)
theorem Bun.at {B pp N : Nat} {w : World} {X : Nat → Side} (h : Bun B w pp X N) {i : Nat} (hi : i < 2) : Inv (X i) (X (1 - i)) := by
  match i, hi with
  | 0, _ => exact h.inv
  | 1, _ => exact ⟨h.inv.2, h.inv.1⟩
theorem Bun.later {B pp N : Nat} {w w' : World} {X : Nat → Side} (h : Bun B w pp X N) (hb : Below w.heap.size w w') : Bun B w' pp X N := by
  obtain ⟨P, F, G, Q, S, C, hp⟩ := h.pair
  exact ⟨(hp.later hb).to, h.inv, h.small⟩
theorem Bun.step {B pp N : Nat} {w w' : World} {X : Nat → Side} (h : Bun B w pp X N) (hN : N + 1 ≤ 1000) {i : Nat} (hi : i < 2) (k now : Int) (b : Bytes) (hp : PairS B w' pp (doX k now b i X)) : Bun B w' pp (doX k now b i X) (N + 1) := by
  have hI := h.at hi
  have h1 := inv_do hI k now b
  have h2 := small_do (h.small i hi) (h.small (1 - i) (by omega)) hN hI.1.ok.few k now b
  have e1 : doX k now b i X (1 - i) = (doS k now b (X i) (X (1 - i))).2 := by unfold doX; exact upd_same _ _ _
  have e2 : doX k now b i X i = (doS k now b (X i) (X (1 - i))).1 := by unfold doX; rw [upd_other _ _ (by omega)]; exact upd_same _ _ _
  refine ⟨hp, ?_, fun j hj => ?_⟩
  · match i, hi, e1, e2, h1 with
    | 0, _, e1, e2, h1 => rw [e2, show doX k now b 0 X 1 = _ from e1]; exact h1
    | 1, _, e1, e2, h1 => rw [e2, show doX k now b 1 X 0 = _ from e1]; exact ⟨h1.2, h1.1⟩
  · by_cases e : j = i
    · subst e; rw [e2]; exact h2.1
    · have : j = 1 - i := by omega
      subst this; rw [e1]; exact h2.2
def DoneP (B pp i N : Nat) (X : Nat → Side) (k now : Int) (b : Bytes) (w : World) (e : Ending) (w' : World) : Prop := e = .returned (.bool true) ∧ Bun B w' pp (doX k now b i X) (N + 1) ∧ Below B w w' ∧ Ku w w'
theorem do_any {B pp N : Nat} {w : World} {X : Nat → Side} (h : Bun B w pp X N) (hN : N + 1 ≤ 1000) (k b now : Int) (hb : -9223372036854775808 ≤ b ∧ b ≤ 9223372036854775807) (hnow : -9223372036854775808 ≤ now ∧ now ≤ 9223372036854775807) (A0 : Option Addr) (body : Bytes) (c0 : Nat) (hy : Bd B w A0 body) (hbl : body.length ≤ 140737488355328) (v3 v4 v5 v6 v7 v8 : Value) :
    Calls Try.prog 8 #[.pointer (some ⟨pp, 0, none⟩), .agg #[.int .i64 k, .int .i64 b, .slice A0 body.length c0, v3, v4, v5, v6, v7, v8, .int .i64 now]] w (DoneP B pp (b % 2).toNat N X k now body w) := by
  obtain ⟨i, hi⟩ : ∃ i, i = (b % 2).toNat := ⟨_, rfl⟩
  have hi2 : i < 2 := by omega
  have hby : bits BinOp.and IntKind.i64 b 1 = (i : Int) := by rw [and_one b hb.1 hb.2, hi]; omega
  rw [← hi]
  have hI := h.at hi2
  have hs0 := h.small i hi2
  have hs1 := h.small (1 - i) (by omega)
  have hfq : ∀ e ∈ (X i).q, fitsB e = true := fun e he => (hI.1.fits e he).1
  have hcl : (X i).came.length ≤ 2147483648 := by have := hI.1.came; have := hI.1.ok.wanted.2; omega
  obtain ⟨P, F, G, Q, S, C, hp⟩ := h.pair
  have key : Calls Try.prog 8 #[.pointer (some ⟨pp, 0, none⟩), .agg #[.int .i64 k, .int .i64 b, .slice A0 body.length c0, v3, v4, v5, v6, v7, v8, .int .i64 now]] w (DoPost B pp i X k now body w) := by
    by_cases k1 : k = 1
    · subst k1; exact do_one hp hi2 b now hby hnow A0 body c0 hy hbl v3 v4 v5 v6 v7 v8 hs0 hs1
    by_cases k3 : k = 3
    · subst k3; exact do_three hp hi2 b now hby hnow A0 body c0 hy hbl v3 v4 v5 v6 v7 v8 hs0 hs1
    by_cases k4 : k = 4
    · subst k4; exact do_four hp hi2 b now hby hnow A0 body c0 hy hbl v3 v4 v5 v6 v7 v8 hs0 hs1 hfq hcl
    by_cases k5 : k = 5
    · subst k5; exact do_five hp hi2 b now hby hnow A0 body c0 hy hbl v3 v4 v5 v6 v7 v8 hs0 hs1 hfq hcl
    by_cases k6 : k = 6
    · subst k6; exact do_six hp hi2 b now hby hnow A0 body c0 hy hbl v3 v4 v5 v6 v7 v8 hs0 hs1 hfq hcl
    by_cases k7 : k = 7
    · subst k7; exact do_seven hp hi2 b now hby hnow A0 body c0 hy hbl v3 v4 v5 v6 v7 v8 hs0 hs1 hI.1.boot
    exact do_other hp hi2 k b now hby hnow A0 body c0 hy hbl v3 v4 v5 v6 v7 v8 hs0 hs1 ⟨k1, k3, k4, k5, k6, k7⟩
  refine Calls.mono key ?_
  rintro e w' ⟨h1, h2, h3, h4⟩
  exact ⟨h1, h.step hN hi2 k now body h2, h3, h4⟩
end Go.Proofs.Ytihkjdoajfjnpaa
