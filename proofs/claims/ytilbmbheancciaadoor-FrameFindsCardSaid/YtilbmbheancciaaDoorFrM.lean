/- The laws FrameCuts and FrameFinds: facts of their loops. -/
import Derived.Test.YtilbmbheancciaaDoorFrJ
set_option linter.unusedSimpArgs false
set_option linter.unusedVariables false
namespace Go.Proofs.YtilbmbheancciaaDoor
open Go.ChangeShapes Go.WideShapes Go.ChangeAt Go.RowKit Go.Base Go.Mx Go.Fr

/-- Where frames end. -/
def endsL (ps : List (List UInt8)) : List Nat := (List.range ps.length).map fun i => (framesB (ps.take (i + 1))).length
def intVs (l : List Nat) : List Value := l.map fun (n : Nat) => Value.int .i64 (n : Int)
theorem endsL_len (ps : List (List UInt8)) : (endsL ps).length = ps.length := by unfold endsL; simp
theorem endsL_snoc (ps : List (List UInt8)) (p : List UInt8) : endsL (ps ++ [p]) = endsL ps ++ [(framesB (ps ++ [p])).length] := by
  unfold endsL
  rw [List.length_append, List.length_singleton, List.range_succ, List.map_append]
  congr 1
  · apply List.map_congr_left
    intro i hi
    have := List.mem_range.1 hi
    rw [List.take_append_of_le_length (by omega)]
  · rw [List.map_cons, List.map_nil, List.take_of_length_le (by simp)]
theorem endsL_get (ps : List (List UInt8)) (i : Nat) (h : i < ps.length) : (endsL ps)[i]? = some (framesB (ps.take (i + 1))).length := by unfold endsL; simp [h]
theorem intVs_get (l : List Nat) (i n : Nat) (h : l[i]? = some n) : (intVs l)[i]? = some (.int .i64 (n : Int)) := by unfold intVs; simp [h]
theorem intVs_snoc (l : List Nat) (n : Nat) : intVs (l ++ [n]) = intVs l ++ [.int .i64 (n : Int)] := by unfold intVs; simp
theorem ended_iff : ∀ (ps : List (List UInt8)) (k i : Nat), i < ps.length → (i < ended ps k ↔ (framesB (ps.take (i + 1))).length ≤ k)
  | [], _, _, h => by simp at h
  | p :: ps, k, 0, _ => by
    have e : (framesB ((p :: ps).take (0 + 1))).length = p.length + 8 := by
      rw [List.take_succ_cons, List.take_zero, framesB_cons, List.length_append, frameB_len]; rfl
    rw [e]; unfold ended; split <;> simp <;> omega
  | p :: ps, k, i + 1, h => by
    have e : (framesB ((p :: ps).take (i + 1 + 1))).length = p.length + 8 + (framesB (ps.take (i + 1))).length := by
      rw [List.take_succ_cons, framesB_cons, List.length_append, frameB_len]
    rw [e]; unfold ended
    have hi : i < ps.length := by simpa using h
    split
    · next hle =>
      have := ended_iff ps (k - (p.length + 8)) i hi
      omega
    · omega
theorem own_apart {w : World} {b b' n n' s s' : Nat} {e e' : TypeId} {v v' : Value} {xs xs' : List Value} (h : w.ownsRow b e s v n xs) (h' : w.ownsRow b' e' s' v' n' xs') (hne : e ≠ e') (k : Nat) (hk : v.ownBlock = some k) : ¬ v'.ownBlock = some k := by
  intro hk'
  rcases h.2 with ⟨rfl, _⟩ | ⟨g, cap, cur, rfl, _, hg, _⟩
  · simp [Value.ownBlock] at hk
  · have e1 : g = k := by simpa [Value.ownBlock] using hk
    subst e1
    exact own_ne h' hg (fun e => hne e.symm) hk'
/-- What the loop of FrameCuts has made. -/
def CR (w : World) (l : List (List UInt8)) (k : Nat) (X E : Option Addr) (m cX cE : Nat) (wr : World) : Prop :=
  m = (framesB (l.take k)).length ∧ wr.ownsRow w.heap.size 5 1 (.slice X (framesB (l.take k)).length cX) (framesB (l.take k)).length ((framesB (l.take k)).map u8v) ∧
  wr.ownsRow w.heap.size 3 1 (.slice E k cE) k (intVs (endsL (l.take k))) ∧ Short (l.take k) ∧ k ≤ 40 ∧ Below w.heap.size w wr
theorem CR.start (w : World) (l : List (List UInt8)) : CR w l 0 none none 0 0 0 w := by
  refine ⟨rfl, World.ownsRow_nil _ _ _ _, by rw [List.take_zero]; exact World.ownsRow_nil _ _ _ _, fun p hp => ?_, by omega, Below.refl _ _⟩
  rw [List.take_zero] at hp; cases hp
theorem CR.len {w wr : World} {l : List (List UInt8)} {k m cX cE : Nat} {X E : Option Addr} (h : CR w l k X E m cX cE wr) : m ≤ 2621760 := by
  rw [h.1]; exact short_len h.2.2.2.1 h.2.2.2.2.1
theorem CR.next {w wr w' : World} {l : List (List UInt8)} {k m cX cE N cX' cE' : Nat} {z : Int} {X E X' E' : Option Addr} {p bs : List UInt8} (h : CR w l k X E m cX cE wr) (hbs : bs = framesB (l.take k)) (hk : k < l.length) (hp : l[k] = p) (h65 : p.length ≤ 65536) (h40 : k < 40) (hN : N = (bs ++ frameB p).length)
    (ho : w'.ownsRow w.heap.size 5 1 (.slice X' (bs ++ frameB p).length cX') (bs ++ frameB p).length ((bs ++ frameB p).map u8v))
    (hz : z = ((bs ++ frameB p).length : Nat)) (he : w'.ownsRow w.heap.size 3 1 (.slice E' (k + 1) cE') (k + 1) (intVs (endsL (l.take k)) ++ [.int .i64 z])) (hb : Below w.heap.size w w') :
    CR w l (k + 1) X' E' N cX' cE' w' := by
  have e : framesB (l.take (k + 1)) = bs ++ frameB p := by rw [take_next hk, framesB_snoc, hp, hbs]
  refine ⟨by rw [e, hN], by rw [e]; exact ho, ?_, ?_, by omega, hb⟩
  · have e2 : endsL (l.take (k + 1)) = endsL (l.take k) ++ [(bs ++ frameB p).length] := by rw [← e, take_next hk, endsL_snoc]
    rw [e2, intVs_snoc, ← hz]; exact he
  · rw [take_next hk]
    intro q hq
    rcases List.mem_append.1 hq with hq | hq
    · exact h.2.2.2.1 q hq
    · rw [List.mem_singleton.1 hq, hp]; exact h65
theorem own_grown {w1 w2 : World} {b b' n n' s s' : Nat} {e e' : TypeId} {v v' : Value} {xs xs' : List Value} (h : w1.ownsRow b e s v n xs) (h' : w1.ownsRow b' e' s' v' n' xs') (hne : e ≠ e') (hg : w1.grownBy w2 v'.ownBlock) : w2.ownsRow b e s v n xs :=
  own_moved (p := fun k => v'.ownBlock = some k) h ((Moved.refl _ _).grown hg (fun k _ e => e)) (fun k hk => own_apart h h' hne k hk)
theorem own_below {w1 w2 : World} {b n s : Nat} {e : TypeId} {v : Value} {xs : List Value} (h : w1.ownsRow b e s v n xs) (hb : Below w1.heap.size w1 w2) : w2.ownsRow b e s v n xs :=
  own_moved (p := fun k => False) h (Below.movedNew hb) (fun k hk h => h)
theorem Parts.take {w : World} {A : Option Addr} {l : List (List UInt8)} (h : Parts w A l) (n : Nat) : Parts w A (l.take n) := fun i hi => by
  have hi2 : i < l.length := by rw [List.length_take] at hi; omega
  obtain ⟨b, o, a, cap, e, c, y, m⟩ := h i hi2
  have e2 : (l.take n)[i] = l[i] := List.getElem_take
  exact ⟨b, o, a, cap, e, by rw [e2]; exact c, by rw [e2]; exact y, by rw [e2]; exact m⟩
/-- What All finds in a beginning of frames. -/
theorem all_cut_is (X : Option Addr) (ps : List (List UInt8)) (kc cX : Nat) (V : World) (hs : Short ps) (hT : Tab V) (hb : Byt V X (framesB ps)) (hk : kc ≤ (framesB ps).length) (hc : (framesB ps).length ≤ cX) (hcm : cX ≤ maxLen) (hA : (X = none ∧ cX = 0) ∨ ∃ g o, X = some ⟨g, o, none⟩) (h6 : (framesB ps).length ≤ 6000000) :
    Calls Tryd.prog 14 #[.slice X kc cX] V (AllIs (ps.take (ended ps kc)) (ended ps kc) ((framesB (ps.take (ended ps kc))).length : Int) V) :=
  (all_any X ((framesB ps).take kc) kc cX V (by rw [List.length_take]; omega) hT (hb.take kc) (by omega) hcm hA (by omega)).mono fun e w' ⟨R, cr, he, hp, hbw, _⟩ => by
    obtain ⟨i1, i2⟩ := all_cut ps kc hs hk
    have := ended_le ps kc
    rw [i1, i2] at he
    rw [i1] at hp
    exact ⟨R, cr, by rw [he, List.length_take, Nat.min_eq_left this], hp, hbw⟩
end Go.Proofs.YtilbmbheancciaaDoor
