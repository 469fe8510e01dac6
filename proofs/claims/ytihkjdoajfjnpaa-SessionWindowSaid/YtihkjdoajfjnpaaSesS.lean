/- The laws' Do: what all acts begin with. -/
import Derived.Test.YtihkjdoajfjnpaaSesR
import Derived.Deep.CutRange
import Derived.Deep.CutBlock
set_option linter.unusedSimpArgs false
set_option linter.unusedVariables false
namespace Go.Ses
def doX (k now : Int) (b : Bytes) (i : Nat) (X : Nat → Side) : Nat → Side := upd (upd X i (doS k now b (X i) (X (1 - i))).1) (1 - i) (doS k now b (X i) (X (1 - i))).2
def EqI (a b : Int) : Prop := a = b
def AtIs (now : Int) (n a : Nat) : Prop := n = 0 ∨ (a = atQ now n ∧ a < n)
theorem at_pos {now : Int} {n : Nat} (h0 : n ≠ 0) (h : ¬ now.tmod (n : Int) < 0) : AtIs now n (now.tmod (n : Int)).toNat := by
  refine .inr ⟨?_, ?_⟩
  · unfold atQ
    congr 1
    have h1 : 0 ≤ now.tmod (n : Int) := by omega
    rcases Int.lt_or_le now 0 with h2 | h2
    · have h3 : now.tmod (n : Int) ≤ 0 := by
        have := Int.neg_tmod (a := -now) (b := (n : Int)); rw [Int.neg_neg] at this
        have h4 := Int.tmod_nonneg (b := (n : Int)) (a := -now) (by omega : 0 ≤ -now)
        omega
      have h5 : now.tmod (n : Int) = 0 := by omega
      have h6 : (n : Int) ∣ now := Int.dvd_of_tmod_eq_zero h5
      rw [h5, Int.emod_eq_zero_of_dvd h6]
    · exact Int.tmod_eq_emod_of_nonneg h2
  · have := Int.tmod_lt_of_pos now (show (0 : Int) < n by omega); omega
theorem at_neg {now : Int} {n : Nat} (h0 : n ≠ 0) (h : now.tmod (n : Int) < 0) : AtIs now n (now.tmod (n : Int) + n).toNat := by
  have hlt : -(n : Int) < now.tmod (n : Int) := by
    have h4 := Int.lt_tmod_of_pos now (show (0 : Int) < n by omega); omega
  refine .inr ⟨?_, by omega⟩
  unfold atQ
  congr 1
  have h1 : now = (n : Int) * now.tdiv n + now.tmod n := (Int.mul_tdiv_add_tmod now n).symm
  have h2 : now % (n : Int) = (now.tmod n + n) % n := by
    conv => lhs; rw [h1]
    rw [Int.add_emod_right, Int.add_comm, Int.add_mul_emod_self_left]
  rw [h2, Int.emod_eq_of_lt (by omega) (by omega)]
theorem upd_pair {α : Type} (X : Nat → α) {i : Nat} (hi : i < 2) (v : α) : upd (upd X i v) (1 - i) (X (1 - i)) = upd X i v := by
  funext j; unfold upd
  by_cases e : j = 1 - i
  · rw [if_pos e, if_neg (by omega), e]
  · rw [if_neg e]
theorem onS_len (s : Ss) (e : Ev) : (onS s e).1.1.length ≤ s.l.puts + 2 := by
  have hf : (freshL s e).puts ≤ s.l.puts := by unfold freshL; split <;> simp [newL]
  have ht : ∀ (l : Link) (q : Int) (b : Bytes), (takeS l q b).1.length ≤ l.puts + 2 := fun l q b => by
    unfold takeS; split
    · exact Nat.zero_le _
    · exact drain_len _ _ _
  have hg : ∀ (l : Link) (u : Int), (letGo l u).puts = l.puts := fun l u => by unfold letGo; split <;> rfl
  unfold onS
  repeat' split
  all_goals first
    | exact Nat.zero_le _
    | (refine Nat.le_trans (ht _ _ _) ?_; rw [hg]; exact Nat.add_le_add_right hf 2)
end Go.Ses
namespace Go.Proofs.Ytihkjdoajfjnpaa
open Go.ChangeShapes Go.WideShapes Go.ChangeAt Go.RowKit Go.Base Go.Ses

theorem tickE_len (s : Ss) (now : Int) (h : s.l.out.length ≤ 64) : (tickE s now).length ≤ 100 := by
  unfold tickE
  have h1 := helloE_len s.mine now s.l
  have h2 := outE_len s.mine now (helloL now s.l)
  rw [(helloL_out now s.l).1] at h2
  have h3 : (ackE s.mine (outL s.mine now (helloL now s.l))).length ≤ 1 := by unfold ackE; split <;> simp
  cases (helloL now s.l).knows with
  | true => simp only [if_true, List.length_append]; omega
  | false => simp only [Bool.false_eq_true, if_false, List.append_nil]; omega
theorem own_capK {w : World} {base n cap size : Nat} {e : TypeId} {A : Option Addr} {xs : List Value} (h : w.ownsRow base e size (.slice A n cap) n xs) : n ≤ cap ∧ cap ≤ maxLen := by
  rcases h.2 with ⟨h1, h2⟩ | ⟨g, c2, cur, h1, _, _, h3, h4, _⟩
  · injection h1 with h1 h5 h6
    subst h2 h6
    exact ⟨Nat.le_refl _, by unfold maxLen; omega⟩
  · injection h1 with h1 h5 h6
    subst h6
    exact ⟨h3, h4⟩
def OpBox (W : World) (ob : Nat) (k b now : Int) (A0 : Option Addr) (n c0 : Nat) (v3 v4 v5 v6 v7 v8 : Value) : Prop := W.heap[ob]? = some (.cells #[.int .i64 k, .int .i64 b, .slice A0 n c0, v3, v4, v5, v6, v7, v8, .int .i64 now] 31 (0, 0))
theorem OpBox.cells {W : World} {ob : Nat} {k b now : Int} {A0 : Option Addr} {n c0 : Nat} {v3 v4 v5 v6 v7 v8 : Value} (h : OpBox W ob k b now A0 n c0 v3 v4 v5 v6 v7 v8) : W.cell? ⟨ob, 0, none⟩ = some (.int .i64 k) ∧ W.cell? ⟨ob, 1, none⟩ = some (.int .i64 b) ∧ W.cell? ⟨ob, 2, none⟩ = some (.slice A0 n c0) ∧ W.cell? ⟨ob, 9, none⟩ = some (.int .i64 now) :=
  ⟨cell_of_row _ _ 0 _ _ _ h, cell_of_row _ _ 1 _ _ _ h, cell_of_row _ _ 2 _ _ _ h, cell_of_row _ _ 9 _ _ _ h⟩
/-- What a side may hold, that calls of it have room. -/
def Small (N : Nat) (x : Side) : Prop := x.q.length ≤ 100 * N ∧ x.sent.length ≤ N ∧ x.ss.l.puts ≤ N ∧ N ≤ 1000
def DoPost (B pp i : Nat) (X : Nat → Side) (k now : Int) (b : Bytes) (w : World) (e : Ending) (w' : World) : Prop := e = .returned (.bool true) ∧ PairS B w' pp (doX k now b i X) ∧ Below B w w' ∧ Ku w w'
end Go.Proofs.Ytihkjdoajfjnpaa
