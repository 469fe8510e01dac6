/- The reference's queue: Next, Pop. -/
import Derived.Test.YtllkallodgbpmaaQrA
set_option linter.unusedSimpArgs false
set_option linter.unusedVariables false
namespace Go.Proofs.Ytllkallodgbpmaa
open Go.ChangeShapes Go.WideShapes Go.ChangeAt Go.RowKit Go.Base Go.Que

section
variable {w w' : World} {F G : Nat → Prop} {x : Nat} {l : List (Int × Int)}
def headV : List (Int × Int) → Value
  | [] => .tuple #[.agg #[.int .i64 0, .int .i64 0], .bool false]
  | t :: _ => .tuple #[.agg #[.int .i64 t.1, .int .i64 t.2], .bool true]
set_option maxHeartbeats 1000000 in
theorem rnext_any (h : RefQ w F x l) : Calls Try.prog 29 #[.pointer (some ⟨x, 0, none⟩)] w fun e w' => e = .returned (headV l) ∧ Below w.heap.size w w' := by
  obtain ⟨A, c, h1, h2, h3, h4, h5⟩ := h
  have c0 : w.cell? ⟨x, 0, none⟩ = some (.slice A l.length c) := cell_of_row _ _ 0 _ _ _ h1
  have hx : x < w.heap.size := heap_lt h1
  cases l with
  | nil =>
    rw [List.length_nil] at c0
    clear h1 h2 h3 h4 h5
    go_enter Try.func29, Try.ntmps29
    go_wp2
    exact bodyPost_ret (v := .tuple #[.agg #[.int .i64 0, .int .i64 0], .bool false]) (by simp [results, Try.results29, go_sem]) rfl ⟨rfl, below_alloc _ _⟩
  | cons t r =>
    obtain ⟨g, rfl, e0, e1⟩ := ref_at h2 (k := 0) (by simp)
    have hg : g < w.heap.size := World.block_lt_of_cell? w _ e0
    rw [Nat.zero_mul] at e0 e1
    rw [Nat.zero_add] at e1
    simp only [List.getElem_cons_zero] at e0 e1
    obtain ⟨n, hn⟩ : ∃ n, n = r.length := ⟨_, rfl⟩
    rw [List.length_cons, ← hn] at c0
    have h5 : n + 1 ≤ 65536 := by rw [hn]; simpa using h5
    have he : ((n : Int) + 1 == 0) = false := by rw [beq_eq_false_iff_ne]; omega
    have hnz : (0 : Int) < (n : Int) + 1 := by omega
    obtain ⟨a, b⟩ := t
    clear h1 h2 h3 h4 hn
    go_enter Try.func29, Try.ntmps29
    go_wp2
    exact bodyPost_ret (v := .tuple #[.agg #[.int .i64 a, .int .i64 b], .bool true]) (by simp [results, Try.results29, go_sem]) rfl ⟨rfl, below_alloc _ _⟩
/-- The part of a row from one place to another. -/
theorem ref_src {A : Option Addr} {c lo hi : Nat} {V : World} (h : V.ownsRow 0 36 2 (.slice A l.length c) l.length (cellsT l)) (hh : hi ≤ l.length) (hlo : lo ≤ hi) :
    0 < hi - lo → ∃ g, A = some ⟨g, 0, none⟩ ∧ ∀ j u, (cellsT ((l.take hi).drop lo))[j]? = some u → V.cell? ((⟨g, lo * 2, none⟩ : Addr).add j) = some u := fun h0 => by
  obtain ⟨g, rfl, _⟩ := ref_at h (k := lo) (by omega)
  refine ⟨g, rfl, fun j u hu => ?_⟩
  rw [cellsT_drop, cellsT_take, List.getElem?_drop, List.getElem?_take] at hu
  split at hu
  · rename_i hj
    obtain ⟨g', e, hc⟩ := own_cell h rfl (lo * 2 + j) (by omega)
    injection e with e; injection e with e; subst e
    have e2 : (⟨g, lo * 2, none⟩ : Addr).add j = ⟨g, lo * 2 + j, none⟩ := by unfold Addr.add; split <;> simp_all
    rw [e2, hc]; exact hu
  · cases hu
def popV : List (Int × Int) → Int → Value
  | [], _ => .tuple #[.agg #[.int .i64 0, .int .i64 0], .bool false]
  | t :: _, now => if t.1 ≤ now then .tuple #[.agg #[.int .i64 t.1, .int .i64 t.2], .bool true] else .tuple #[.agg #[.int .i64 0, .int .i64 0], .bool false]
def popT : List (Int × Int) → Int → List (Int × Int)
  | [], _ => []
  | t :: r, now => if t.1 ≤ now then r else t :: r
def RPop (F : Nat → Prop) (x : Nat) (l : List (Int × Int)) (v : Value) (w : World) (e : Ending) (w' : World) : Prop := e = .returned v ∧ RefQ w' (fun k => F k ∨ w.heap.size ≤ k) x l ∧ Moved F w w'
theorem RPop.wide {v : Value} {e : Ending} (h : RPop F x l v w e w') (hG : ∀ k, F k → G k) : RPop G x l v w e w' := ⟨h.1, h.2.1.wide (fun k hk => hk.imp (hG k) (fun h => h)), h.2.2.weaken (fun k _ => hG k)⟩
/-- A row anew in the queue's cell. -/
theorem ref_put {A : Option Addr} {c : Nat} {l' : List (Int × Int)} {V : World} {cs : Array Value} (hx : V.heap[x]? = some (.cells cs 28 (0, 0))) (hcs : cs.size = 1) (ho : V.ownsRow 0 36 2 (.slice A l'.length c) l'.length (cellsT l')) (hF : F x) (hA : ∀ k, (Value.slice A l'.length c).ownBlock = some k → F k) (hl : l'.length ≤ 65536) :
    RefQ (V.setCell ⟨x, 0, none⟩ (.slice A l'.length c)) F x l' := by
  refine ⟨A, c, ?_, own_moved (p := fun k => k = x) ho ((Moved.refl (fun k => k = x) V).setCell (.inr rfl) _) (fun k hk e => own_ne ho hx (by decide) (by rw [hk, e])), hF, hA, hl⟩
  rw [heap_set hx 0 _]
  obtain ⟨cl⟩ := cs
  match cl, hcs with
  | [u], _ => rfl
end
end Go.Proofs.Ytllkallodgbpmaa
