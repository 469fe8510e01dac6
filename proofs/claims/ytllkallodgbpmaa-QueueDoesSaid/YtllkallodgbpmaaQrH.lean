/- The law QueueDoes' state between two calls: a queue and the reference's row that answer alike, and the caller's own blocks apart from both. -/
import Derived.Test.YtllkallodgbpmaaQrG
set_option linter.unusedSimpArgs false
set_option linter.unusedVariables false
namespace Go.Proofs.Ytllkallodgbpmaa
open Go.ChangeShapes Go.WideShapes Go.ChangeAt Go.RowKit Go.Base Go.Que

/-- Queue q and row x hold the same; k calls of Set have been; the blocks of P are neither's. -/
def Both (w : World) (P : Nat → Prop) (q x : Nat) (k : Int) (V : World) : Prop :=
  ∃ (Fq Fr : Nat → Prop) (S : Tm → Prop) (m : Nat) (L : List Tm) (l : List (Int × Int)) (turns : Int), QT Fq V q S m turns ∧ Sim L S m l turns ∧ RefQ V Fr x l ∧ 0 ≤ turns ∧ turns ≤ k ∧
    (∀ j, Fq j → ¬ Fr j) ∧ (∀ j, Fq j → ¬ P j ∧ w.heap.size ≤ j ∧ j < V.heap.size) ∧ (∀ j, Fr j → ¬ P j ∧ w.heap.size ≤ j ∧ j < V.heap.size) ∧ Below w.heap.size w V
def Apart (w : World) (P : Nat → Prop) (V V' : World) : Prop := Moved (fun j => ¬ P j ∧ w.heap.size ≤ j) V V'
section
variable {w V V' : World} {P : Nat → Prop} {q x : Nat} {k : Int}
theorem Both.later (h : Both w P q x k V) (hb : Below V.heap.size V V') : Both w (fun j => P j ∨ (V.heap.size ≤ j ∧ j < V'.heap.size)) q x k V' := by
  obtain ⟨Fq, Fr, S, m, L, l, turns, h1, h2, h3, h4, h5, h6, h7, h8, h9⟩ := h
  have hs := hb.size
  refine ⟨Fq, Fr, S, m, L, l, turns, h1.later hb, h2, h3.later hb, h4, h5, h6, fun j hj => ?_, fun j hj => ?_, h9.trans (hb.mono h9.size)⟩
  · obtain ⟨a, b, c⟩ := h7 j hj
    exact ⟨fun h => h.elim a (fun h => by omega), b, by omega⟩
  · obtain ⟨a, b, c⟩ := h8 j hj
    exact ⟨fun h => h.elim a (fun h => by omega), b, by omega⟩
theorem Both.less {P' : Nat → Prop} (h : Both w P q x k V) (hp : ∀ j, P' j → P j) : Both w P' q x k V := by
  obtain ⟨Fq, Fr, S, m, L, l, turns, h1, h2, h3, h4, h5, h6, h7, h8, h9⟩ := h
  exact ⟨Fq, Fr, S, m, L, l, turns, h1, h2, h3, h4, h5, h6, fun j hj => ⟨fun h => (h7 j hj).1 (hp j h), (h7 j hj).2⟩, fun j hj => ⟨fun h => (h8 j hj).1 (hp j h), (h8 j hj).2⟩, h9⟩
theorem Both.more {k' : Int} (h : Both w P q x k V) (hk : k ≤ k') : Both w P q x k' V := by
  obtain ⟨Fq, Fr, S, m, L, l, turns, h1, h2, h3, h4, h5, h⟩ := h
  exact ⟨Fq, Fr, S, m, L, l, turns, h1, h2, h3, h4, by omega, h⟩
theorem Both.below (h : Both w P q x k V) : Below w.heap.size w V := by
  obtain ⟨Fq, Fr, S, m, L, l, turns, h1, h2, h3, h4, h5, h6, h7, h8, h9⟩ := h
  exact h9
theorem QT.tight {F : Nat → Prop} {S : Tm → Prop} {m : Nat} {turns : Int} (h : QT F V q S m turns) : ∃ F0 : Nat → Prop, QT F0 V q S m turns ∧ (∀ j, F0 j → F j) ∧ ∀ j, F0 j → j < V.heap.size := by
  obtain ⟨f, hq, r⟩ := h
  obtain ⟨F0, h0, hF, hs⟩ := hq.tight
  exact ⟨F0, ⟨f, h0, r⟩, hF, hs⟩
/-- What a call of the queue's and then the reference's come to: one answer. -/
def PairOf (w : World) (P : Nat → Prop) (q x : Nat) (k : Int) (f1 f2 : Nat) (args : Array Value) (v : Value) (V : World) : Prop :=
  Calls Try.prog f1 (#[.pointer (some ⟨q, 0, none⟩)] ++ args) V fun e V1 => e = .returned v ∧ Apart w P V V1 ∧ ∀ V2, Below V1.heap.size V1 V2 →
    Calls Try.prog f2 (#[.pointer (some ⟨x, 0, none⟩)] ++ args) V2 fun e V3 => e = .returned v ∧ Apart w (fun j => P j ∨ (V1.heap.size ≤ j ∧ j < V2.heap.size)) V2 V3 ∧ Both w (fun j => P j ∨ (V1.heap.size ≤ j ∧ j < V2.heap.size)) q x k V3
/-- Both calls write. -/
theorem pair_of {f1 f2 : Nat} {args : Array Value} {v : Value} {S' : Tm → Prop} {m' : Nat} {L' : List Tm} {l l' : List (Int × Int)} {turns' : Int} {Fq Fr : Nat → Prop}
    (hP : ∀ j, P j → j < V.heap.size) (h3 : RefQ V Fr x l) (h6 : ∀ j, Fq j → ¬ Fr j) (h7 : ∀ j, Fq j → ¬ P j ∧ w.heap.size ≤ j ∧ j < V.heap.size) (h8 : ∀ j, Fr j → ¬ P j ∧ w.heap.size ≤ j ∧ j < V.heap.size) (h9 : Below w.heap.size w V)
    (hL : Sim L' S' m' l' turns') (ht0 : 0 ≤ turns') (ht : turns' ≤ k)
    (c1 : Calls Try.prog f1 (#[.pointer (some ⟨q, 0, none⟩)] ++ args) V (OpT Fq q S' m' turns' v V))
    (c2 : ∀ V2, RefQ V2 Fr x l → Calls Try.prog f2 (#[.pointer (some ⟨x, 0, none⟩)] ++ args) V2 (RPop Fr x l' v V2)) : PairOf w P q x k f1 f2 args v V := by
  refine c1.mono fun e V1 ⟨he, hq, hm⟩ => ⟨he, hm.weaken (fun j _ hj => ⟨(h7 j hj).1, (h7 j hj).2.1⟩), fun V2 hb => ?_⟩
  obtain ⟨F0, hq0, hF0, hlt⟩ := hq.tight
  have s1 := hm.size
  have s2 := hb.size
  have s0 := h9.size
  have hr2 : RefQ V2 Fr x l := (h3.kept hm (fun j hj h => h6 j h hj)).later hb
  have hq2 := hq0.later hb
  refine (c2 V2 hr2).mono fun e V3 ⟨he3, hr3, hm3⟩ => ⟨he3, hm3.weaken (fun j _ hj => ?_), ?_⟩
  · obtain ⟨a, b, c⟩ := h8 j hj
    exact ⟨fun h => h.elim a (fun h => by omega), b⟩
  · have s3 := hm3.size
    obtain ⟨G0, hr0, hG0, hltG⟩ := hr3.tight
    have hF : ∀ j, F0 j → ¬ Fr j := fun j hj hf => by
      rcases hF0 j hj with h | h
      · exact h6 j h hf
      · have := (h8 j hf).2.2; omega
    refine ⟨F0, G0, S', m', L', l', turns', hq2.kept hm3 hF, hL, hr0, ht0, ht, fun j hj hg => ?_, fun j hj => ?_, fun j hj => ?_, ?_⟩
    · rcases hG0 j hg with h | h
      · exact hF j hj h
      · have := hlt j hj; omega
    · have hl := hlt j hj
      refine ⟨fun hp => ?_, ?_, by omega⟩
      · rcases hF0 j hj with h | h
        · obtain ⟨a, b, c⟩ := h7 j h
          rcases hp with hp | hp
          · exact a hp
          · omega
        · rcases hp with hp | hp
          · have := hP j hp; omega
          · omega
      · rcases hF0 j hj with h | h
        · exact (h7 j h).2.1
        · omega
    · have hl := hltG j hj
      refine ⟨fun hp => ?_, ?_, by omega⟩
      · rcases hG0 j hj with h | h
        · obtain ⟨a, b, c⟩ := h8 j h
          rcases hp with hp | hp
          · exact a hp
          · omega
        · rcases hp with hp | hp
          · have := hP j hp; omega
          · omega
      · rcases hG0 j hj with h | h
        · exact (h8 j h).2.1
        · omega
    · exact (h9.trans ((hm.below (B := w.heap.size) (fun j _ h => (h7 j h).2.1) s0))).trans ((hb.mono (by omega)).trans (hm3.below (B := w.heap.size) (fun j _ h => (h8 j h).2.1) (by omega)))
theorem pair_set (h : Both w P q x k V) (hP : ∀ j, P j → j < V.heap.size) {id at_ : Int} (hi : fits id) (ha : fits at_) (hk : k + 1 ≤ 9223372036854775807) :
    ∃ r : Int, PairOf w P q x (k + 1) 9 10 #[.int .i64 id, .int .i64 at_] (.int .i64 r) V := by
  obtain ⟨Fq, Fr, S, m, L, l, turns, h1, h2, h3, h4, h5, h6, h7, h8, h9⟩ := h
  obtain ⟨L', S', m', turns', hL, ht0, ht1, hc⟩ := set_sim h1 h2 hi ha h4 (by omega)
  exact ⟨_, pair_of hP h3 h6 h7 h8 h9 hL (by omega) (by omega) hc (fun V2 hr => rset_any hr id at_)⟩
theorem pair_drop (h : Both w P q x k V) (hP : ∀ j, P j → j < V.heap.size) {id : Int} (hi : fits id) :
    ∃ r : Bool, PairOf w P q x k 11 12 #[.int .i64 id] (.bool r) V := by
  obtain ⟨Fq, Fr, S, m, L, l, turns, h1, h2, h3, h4, h5, h6, h7, h8, h9⟩ := h
  obtain ⟨L', S', m', hL, hc⟩ := drop_sim h1 h2 hi
  exact ⟨_, pair_of hP h3 h6 h7 h8 h9 hL h4 h5 hc (fun V2 hr => rdrop_any hr id)⟩
theorem pair_pop (h : Both w P q x k V) (hP : ∀ j, P j → j < V.heap.size) (now : Int) :
    ∃ (a b : Int) (r : Bool), PairOf w P q x k 13 14 #[.int .i64 now] (.tuple #[.agg #[.int .i64 a, .int .i64 b], .bool r]) V := by
  obtain ⟨Fq, Fr, S, m, L, l, turns, h1, h2, h3, h4, h5, h6, h7, h8, h9⟩ := h
  obtain ⟨L', S', m', hL, hc⟩ := pop_sim h1 h2 now
  obtain ⟨a, b, r, hv⟩ : ∃ (a b : Int) (r : Bool), popV l now = .tuple #[.agg #[.int .i64 a, .int .i64 b], .bool r] := by
    cases l with
    | nil => exact ⟨0, 0, false, rfl⟩
    | cons t r =>
      by_cases hd : t.1 ≤ now
      · exact ⟨_, _, _, if_pos hd⟩
      · exact ⟨_, _, _, if_neg hd⟩
  refine ⟨a, b, r, ?_⟩
  rw [hv] at hc
  exact pair_of hP h3 h6 h7 h8 h9 hL h4 h5 hc (fun V2 hr => by rw [← hv]; exact rqpop_any hr now)
theorem pair_when (h : Both w P q x k V) (hP : ∀ j, P j → j < V.heap.size) {id : Int} (hi : fits id) :
    ∃ (a : Int) (r : Bool), PairOf w P q x k 15 16 #[.int .i64 id] (.tuple #[.int .i64 a, .bool r]) V := by
  obtain ⟨Fq, Fr, S, m, L, l, turns, h1, h2, h3, h4, h5, h6, h7, h8, h9⟩ := h
  refine ⟨_, _, pair_of hP h3 h6 h7 h8 h9 h2 h4 h5 ((when_sim h1 h2 hi).mono fun e w' ⟨he, hw⟩ => ⟨he, ?_, ?_⟩) (fun V2 hr => (rwhen_any hr id).mono fun e w' ⟨he, hw⟩ => ⟨he, ?_, ?_⟩)⟩
  · subst hw; exact h1.wide (fun _ h => .inl h)
  · subst hw; exact Moved.refl _ _
  · subst hw; exact hr.wide (fun _ h => .inl h)
  · subst hw; exact Moved.refl _ _
/-- A fork, and then the old queue turned: the fork goes on as the old one was. -/
theorem fork_of (h : Both w P q x k V) (hP : ∀ j, P j → j < V.heap.size) {id at_ : Int} (hi : fits id) (ha : fits at_) (hk : k + 1 ≤ 9223372036854775807) :
    Calls Try.prog 17 #[.pointer (some ⟨q, 0, none⟩)] V fun e V1 => ∃ q' : Nat, e = .returned (.pointer (some ⟨q', 0, none⟩)) ∧ Below V.heap.size V V1 ∧
      Calls Try.prog 9 #[.pointer (some ⟨q, 0, none⟩), .int .i64 id, .int .i64 at_] V1 fun e V2 => (∃ v, e = .returned v) ∧ Apart w P V1 V2 ∧
        Calls Try.prog 13 #[.pointer (some ⟨q, 0, none⟩), .int .i64 at_] V2 fun e V3 => (∃ v, e = .returned v) ∧ Apart w P V2 V3 ∧ Both w P q' x k V3 := by
  obtain ⟨Fq, Fr, S, m, L, l, turns, h1, h2, h3, h4, h5, h6, h7, h8, h9⟩ := h
  refine (fork_sim h1).mono fun e V1 ⟨q', he, hq', hb⟩ => ⟨q', he, hb, ?_⟩
  have s0 := h9.size
  have s1 := hb.size
  obtain ⟨F1, hf1, hF1, hl1⟩ := hq'.tight
  obtain ⟨L', S', m', turns', hL, _, _, hc⟩ := set_sim (h1.later hb) h2 hi ha h4 (by omega)
  refine hc.mono fun e V2 ⟨he2, hq2, hm2⟩ => ⟨⟨_, he2⟩, hm2.weaken (fun j _ hj => ⟨(h7 j hj).1, (h7 j hj).2.1⟩), ?_⟩
  have s2 := hm2.size
  obtain ⟨L3, S3, m3, hL3, hc3⟩ := pop_sim hq2 hL at_
  have hpre : ∀ j, (Fq j ∨ V1.heap.size ≤ j) → ¬ P j ∧ w.heap.size ≤ j := fun j hj => by
    rcases hj with h | h
    · exact ⟨(h7 j h).1, (h7 j h).2.1⟩
    · exact ⟨fun hp => by have := hP j hp; omega, by omega⟩
  refine hc3.mono fun e V3 ⟨he3, _, hm3⟩ => ⟨⟨_, he3⟩, hm3.weaken (fun j _ hj => hpre j hj), ?_⟩
  have s3 := hm3.size
  have a1 : ∀ j, F1 j → V.heap.size ≤ j ∧ j < V1.heap.size := fun j hj => ⟨hF1 j hj, hl1 j hj⟩
  refine ⟨F1, Fr, S, m, L, l, turns, (hf1.kept hm2 (fun j hj hq => ?_)).kept hm3 (fun j hj hq => ?_), h2, ((h3.later hb).kept hm2 (fun j hj hq => h6 j hq hj)).kept hm3 (fun j hj hq => ?_), h4, h5, fun j hj hr => ?_, fun j hj => ?_, fun j hj => ?_, ?_⟩
  · have := (h7 j hq).2.2; have := a1 j hj; omega
  · have := a1 j hj
    rcases hq with h | h
    · have := (h7 j h).2.2; omega
    · omega
  · rcases hq with h | h
    · exact h6 j h hj
    · have := (h8 j hj).2.2; omega
  · have := a1 j hj; have := (h8 j hr).2.2; omega
  · have := a1 j hj
    exact ⟨fun hp => by have := hP j hp; omega, by omega, by omega⟩
  · obtain ⟨a, b, c⟩ := h8 j hj
    exact ⟨a, b, by omega⟩
  · exact h9.trans (((hb.mono s0)).trans ((hm2.below (fun j _ h => (h7 j h).2.1) (by omega)).trans (hm3.below (fun j _ h => (hpre j h).2) (by omega))))
theorem both_start (w : World) : Calls Try.prog 7 #[] w fun e w1 => ∃ q : Nat, e = .returned (.pointer (some ⟨q, 0, none⟩)) ∧ Both w (fun _ => False) q w1.heap.size 0 (w1.alloc (.cells #[.slice none 0 0] 28)) := by
  refine (qnew_any w).mono fun e w1 ⟨q, he, hq, hb⟩ => ⟨q, he, ?_⟩
  have h1 : QT (fun k => w.heap.size ≤ k) w1 q (fun _ => False) 0 0 := ⟨noTm, hq, fun k k0 kn => by omega, fun t => ⟨fun ⟨k, hk, _⟩ => by omega, fun h => h.elim⟩⟩
  obtain ⟨F0, h0, hF, hl⟩ := h1.tight
  have s1 := hb.size
  refine ⟨F0, fun j => j = w1.heap.size, _, 0, [], [], 0, h0.later (below_alloc _ _), Sim.nil, ⟨none, 0, heap_new w1 _, ⟨rfl, .inl ⟨rfl, rfl⟩⟩, rfl, fun k hk => (by cases hk), Nat.zero_le _⟩, Int.le_refl _, Int.le_refl _, fun j hj hr => ?_, fun j hj => ?_, fun j hj => ?_, hb.alloc hb.size _⟩
  · have := hl j hj; have hr : j = w1.heap.size := hr; omega
  · exact ⟨fun h => h, hF j hj, by have := hl j hj; simp; omega⟩
  · exact ⟨fun h => h, by have hj : j = w1.heap.size := hj; omega, by have hj : j = w1.heap.size := hj; simp; omega⟩
end
end Go.Proofs.Ytllkallodgbpmaa
