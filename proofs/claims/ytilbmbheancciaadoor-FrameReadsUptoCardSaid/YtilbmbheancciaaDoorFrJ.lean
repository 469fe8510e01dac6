/- The law FrameJoins. -/
import Derived.Test.YtilbmbheancciaaDoorFrL
import Derived.Test.YtilbmbheancciaaDoorFrP
import Derived.Deep.CutBlock
import Derived.Deep.LoopGhost
set_option linter.unusedSimpArgs false
set_option linter.unusedVariables false
namespace Go.Proofs.YtilbmbheancciaaDoor
open Go.ChangeShapes Go.WideShapes Go.ChangeAt Go.RowKit Go.Base Go.Mx Go.Fr

/-- The cells of a row of byte slices. -/
theorem parts_vals {w : World} {A : Option Addr} {l : List (List UInt8)} (h : Parts w A l) :
    ∃ vs : List Value, Slics w vs l ∧ (0 < l.length → ∃ a, A = some a ∧ ∀ j u, vs[j]? = some u → w.cell? (a.add j) = some u) ∧ ∀ u ∈ vs, u.oneCell' = true := by
  have each : ∀ i, i < l.length → ∃ v : Value, (∃ a cap, v = .slice a (l.getD i []).length cap ∧ Byt w a (l.getD i []) ∧ (l.getD i []).length ≤ maxLen) ∧ ∃ b o, A = some ⟨b, o, none⟩ ∧ w.cell? ⟨b, o + i, none⟩ = some v := fun i hi => by
    obtain ⟨b, o, a, cap, e, c, y, m⟩ := h i hi
    have e2 : l.getD i [] = l[i] := by simp [List.getD, hi]
    rw [e2]
    exact ⟨_, ⟨a, cap, rfl, y, m⟩, b, o, e, c⟩
  obtain ⟨f, hf⟩ : ∃ f : Nat → Value, ∀ i, i < l.length → (∃ a cap, f i = .slice a (l.getD i []).length cap ∧ Byt w a (l.getD i []) ∧ (l.getD i []).length ≤ maxLen) ∧ ∃ b o, A = some ⟨b, o, none⟩ ∧ w.cell? ⟨b, o + i, none⟩ = some (f i) :=
    ⟨fun i => if hi : i < l.length then (each i hi).choose else undef, fun i hi => by simp only [dif_pos hi]; exact (each i hi).choose_spec⟩
  refine ⟨(List.range l.length).map f, ⟨by simp, fun i hi => ?_⟩, fun hp => ?_, fun u hu => ?_⟩
  · obtain ⟨⟨a, cap, e, y, m⟩, _⟩ := hf i hi
    have e2 : l.getD i [] = l[i] := by simp [List.getD, hi]
    rw [e2] at e y m
    exact ⟨a, cap, by simp [hi, e], y, m⟩
  · obtain ⟨_, b, o, e, _⟩ := hf 0 hp
    refine ⟨_, e, fun j u hu => ?_⟩
    have hj : j < l.length := by
      have := List.getElem?_eq_some_iff.1 hu
      obtain ⟨h1, _⟩ := this
      simpa using h1
    obtain ⟨_, b', o', e', c⟩ := hf j hj
    rw [e] at e'
    injection e' with e'
    injection e' with e1 e2
    subst e1; subst e2
    rw [fr_off, c]
    simpa [hj] using hu
  · obtain ⟨i, hi, rfl⟩ := List.mem_map.1 hu
    obtain ⟨⟨a, cap, e, _⟩, _⟩ := hf i (List.mem_range.1 hi)
    rw [e]; rfl
theorem own_shape {w : World} {base n cap : Nat} {e : TypeId} {A : Option Addr} {xs : List Value} (h : w.ownsRow base e 1 (.slice A n cap) n xs) : (A = none ∧ cap = 0) ∨ ∃ g o, A = some ⟨g, o, none⟩ := by
  rcases h.2 with ⟨h1, h2⟩ | ⟨g, cap', cur, h1, _⟩
  · injection h1 with h1 h3 h6; exact .inl ⟨h1, h6⟩
  · injection h1 with h1 h3 h6; exact .inr ⟨g, 0, h1⟩
/-- What a loop of Put has made. -/
def JR (w : World) (l : List (List UInt8)) (k : Nat) (X : Option Addr) (m c : Nat) (wr : World) : Prop :=
  m = (framesB (l.take k)).length ∧ Byt wr X (framesB (l.take k)) ∧ m ≤ c ∧ c ≤ maxLen ∧ ((X = none ∧ c = 0) ∨ ∃ g o, X = some ⟨g, o, none⟩) ∧ Short (l.take k) ∧ k ≤ 40 ∧ Below w.heap.size w wr
theorem JR.start (w : World) (l : List (List UInt8)) : JR w l 0 none 0 0 w := by
  refine ⟨rfl, Byt.nil _ _, Nat.le_refl _, Nat.zero_le _, .inl ⟨rfl, rfl⟩, fun p hp => ?_, by omega, Below.refl _ _⟩
  rw [List.take_zero] at hp; cases hp
theorem short_len {l : List (List UInt8)} {k : Nat} (h : Short (l.take k)) (hk : k ≤ 40) : (framesB (l.take k)).length ≤ 2621760 := by
  have := frames_len _ h
  have h2 : (l.take k).length ≤ 40 := by rw [List.length_take]; omega
  omega
theorem JR.len {w wr : World} {l : List (List UInt8)} {k m c : Nat} {X : Option Addr} (h : JR w l k X m c wr) : m ≤ 2621760 := by
  rw [h.1]; exact short_len h.2.2.2.2.2.1 h.2.2.2.2.2.2.1
theorem take_next {l : List (List UInt8)} {k : Nat} (hk : k < l.length) : l.take (k + 1) = l.take k ++ [l[k]] := by
  rw [List.take_succ_eq_append_getElem hk]
theorem JR.next {w wr w' : World} {l : List (List UInt8)} {k m c g G N : Nat} {X : Option Addr} {p : List UInt8} (h : JR w l k X m c wr) (hk : k < l.length) (hp : l[k] = p) (h65 : ¬ 65536 < p.length) (h40 : k < 40) (hN : N = (framesB (l.take k) ++ frameB p).length)
    (ho : w'.ownsRow wr.heap.size 5 1 (.slice (some ⟨g, 0, none⟩) (framesB (l.take k) ++ frameB p).length G) (framesB (l.take k) ++ frameB p).length ((framesB (l.take k) ++ frameB p).map u8v)) (hb : Below wr.heap.size wr w') :
    JR w l (k + 1) (some ⟨g, 0, none⟩) N G w' := by
  have e : framesB (l.take (k + 1)) = framesB (l.take k) ++ frameB p := by rw [take_next hk, framesB_snoc, hp]
  have hc := own_cap ho
  refine ⟨by rw [e, hN], ?_, by omega, hc.2, .inr ⟨g, 0, rfl⟩, ?_, by omega, h.2.2.2.2.2.2.2.trans (hb.mono h.2.2.2.2.2.2.2.size)⟩
  · rw [e]; exact own_byt_any ho
  · rw [take_next hk]
    intro q hq
    rcases List.mem_append.1 hq with hq | hq
    · exact h.2.2.2.2.2.1 q hq
    · rw [List.mem_singleton.1 hq, hp]; omega
def AllIs (l : List (List UInt8)) (N : Nat) (z : Int) (w : World) (e : Ending) (w' : World) : Prop :=
  ∃ R c, e = .returned (.tuple #[.slice R N c, .int .i64 z]) ∧ Parts w' R l ∧ Below w.heap.size w w'
theorem all_is (A : Option Addr) (l : List (List UInt8)) (b : List UInt8) (n c N : Nat) (z : Int) (w : World) (hl : Short l) (hbl : b = framesB l) (hbn : b.length = n) (hT : Tab w) (hb : Byt w A b) (hc : n ≤ c) (hcm : c ≤ maxLen) (hA : (A = none ∧ c = 0) ∨ ∃ g o, A = some ⟨g, o, none⟩) (h6 : n ≤ 6000000) (hN : l.length = N) (hz : (b.length : Int) = z) :
    Calls Tryd.prog 14 #[.slice A n c] w (AllIs l N z w) :=
  (all_any A b n c w hbn hT hb hc hcm hA h6).mono fun e w' ⟨R, cr, he, hp, hbw, _⟩ => by
    rw [hbl, all_just l hl, whole_just l hl, ← hbl] at he
    rw [hbl, all_just l hl] at hp
    exact ⟨R, cr, by rw [he, hN, hz], hp, hbw⟩
theorem wpList_wanted {P : Program} {ops : Array Oper} {Q : Exit → Act → World → Prop} {a : Act} {w : World} {rest : List Oper} {o : Oper} (hw : Region.wanted o (yielded ops a.tmps) = true)
    (h : ∀ K : Act → World → Prop, (∀ a w, wpList P ops Q rest a w → K a w) → o.wp P a w K Q) : wpList P ops Q (o :: rest) a w :=
  wpList_step fun K hK => by rw [if_pos hw]; exact h K hK
theorem Slics.append {w : World} {xs ys : List Value} {l m : List (List UInt8)} (h : Slics w xs l) (h2 : Slics w ys m) : Slics w (xs ++ ys) (l ++ m) := by
  refine ⟨by simp [h.1, h2.1], fun i hi => ?_⟩
  by_cases hi2 : i < l.length
  · obtain ⟨a, cp, e, b, q⟩ := h.2 i hi2
    refine ⟨a, cp, ?_, ?_, ?_⟩
    · rw [List.getElem?_append_left (by rw [h.1]; exact hi2), List.getElem_append_left hi2]; exact e
    · rw [List.getElem_append_left hi2]; exact b
    · rw [List.getElem_append_left hi2]; exact q
  · have hi3 : i - l.length < m.length := by rw [List.length_append] at hi; omega
    obtain ⟨a, cp, e, b, q⟩ := h2.2 _ hi3
    refine ⟨a, cp, ?_, ?_, ?_⟩
    · rw [List.getElem?_append_right (by rw [h.1]; omega), h.1, List.getElem_append_right (by omega)]; exact e
    · rw [List.getElem_append_right (by omega)]; exact b
    · rw [List.getElem_append_right (by omega)]; exact q
end Go.Proofs.YtilbmbheancciaaDoor
