/- Package net: Part, with the library's IndexFunc and DeleteFunc. -/
import Derived.Test.YtbmadhmcnjcdfaaNetI
set_option linter.unusedSimpArgs false
set_option linter.unusedVariables false
namespace Go.Proofs.Ytbmadhmcnjcdfaa
open Go.ChangeShapes Go.WideShapes Go.ChangeAt Go.RowKit Go.Base Go.Net

section
variable {T : TypeId} {F G : Nat → Prop} {w w1 w' : World} {p : Nat} {s : St} {A : Option Addr} {c n : Nat} {vs : List PkV} {x : PkV}
abbrev parts (ba bb : Nat) : Value := .func (.func 35) #[] #[.pointer (some ⟨ba, 0, none⟩), .pointer (some ⟨bb, 0, none⟩)]
theorem part1_any (i fr dst a b : Int) (v : Value) (ba bb : Nat) (hv : v.oneCell' = true) (ha : w.cell? ⟨ba, 0, none⟩ = some (.int .i64 a)) (hb : w.cell? ⟨bb, 0, none⟩ = some (.int .i64 b)) (bl : List UInt8) :
    Calls Try.prog 35 #[.agg #[.int .i64 i, .int .i64 fr, .int .i64 dst, v], .pointer (some ⟨ba, 0, none⟩), .pointer (some ⟨bb, 0, none⟩)] w fun e w' => e = .returned (.bool (btw a b ⟨i, fr, dst, bl⟩)) ∧ Below w.heap.size w w' := by
  have hba : ba < w.heap.size := World.block_lt_of_cell? w _ ha
  have hbb : bb < w.heap.size := World.block_lt_of_cell? w _ hb
  obtain ⟨W, hW⟩ : ∃ W, W = w.alloc (.cells #[.int .i64 i, .int .i64 fr, .int .i64 dst, v] 37) := ⟨_, rfl⟩
  have HB : Hid (Below w.heap.size w W) := Lib.hid (by rw [hW]; exact below_alloc _ _)
  have k1 : W.heap[w.heap.size]? = some (.cells #[.int .i64 i, .int .i64 fr, .int .i64 dst, v] 37 (0, 0)) := by rw [hW]; exact heap_new _ _
  have a1 := cell_later HB.out ha
  have b1 := cell_later HB.out hb
  have c1 : W.cell? ⟨w.heap.size, 1, none⟩ = some (.int .i64 fr) := cell_of_row _ _ 1 _ _ _ k1
  have c2 : W.cell? ⟨w.heap.size, 2, none⟩ = some (.int .i64 dst) := cell_of_row _ _ 2 _ _ _ k1
  have HW := Lib.hid hW
  clear hW k1 ha hb hba hbb
  go_enter Try.func35, Try.ntmps35
  go_wp2_with (rw [← HW.out])
  all_goals
    go_ret
    refine ⟨ret_bool ?_, HB.out⟩
    unfold btw
    simp [*]
    try (intros; omega)
/-- Is there one between the two places, and where the first stands. -/
def FirstBtw (vs : List PkV) (a b : Int) (z : Int) : Prop := (z = -1 ∧ ∀ k (h : k < vs.length), btw a b vs[k].p = false) ∨ ∃ k : Nat, z = (k : Int) ∧ k < vs.length ∧ (∀ j (h : j < vs.length), j < k → btw a b vs[j].p = false) ∧ ∀ h : k < vs.length, btw a b vs[k].p = true
set_option maxHeartbeats 2000000 in
set_option maxRecDepth 20000 in
theorem index_any {b0 : Nat} (h : w.ownsRow b0 37 4 (.slice A vs.length c) vs.length (cellsP vs)) (hf : vs.length ≤ 4096) (a b : Int) (ba bb : Nat) (ha : w.cell? ⟨ba, 0, none⟩ = some (.int .i64 a)) (hb : w.cell? ⟨bb, 0, none⟩ = some (.int .i64 b)) :
    Calls Try.prog 42 #[.slice A vs.length c, parts ba bb] w fun e w' => ∃ z : Int, e = .returned (.int .i64 z) ∧ FirstBtw vs a b z ∧ Below w.heap.size w w' := by
  have HAt := Lib.hid (fun (k : Nat) (hk : k < vs.length) (V : World) (hV : Below w.heap.size w V) => rowP_at (own_moved (p := fun _ => False) h (Below.movedNew hV) (fun _ _ h => h)) hk)
  have HCl := Lib.hid (fun (x : PkV) (V : World) (hV : Below w.heap.size w V) => part1_any (w := V) x.p.id x.p.fr x.p.dst a b x.val ba bb rfl (cell_later hV ha) (cell_later hV hb) x.p.body)
  obtain ⟨n, hn⟩ : ∃ n, n = vs.length := ⟨_, rfl⟩
  have HN := Lib.hid hn
  rw [← hn] at hf ⊢
  clear h hn ha hb
  go_enter Try.func42, Try.ntmps42
  go_wp2
  go_loopw [8] (fun iv wr => ∃ k : Nat, k ≤ n ∧ iv = .int .i64 (k : Int) ∧ Hid (∀ j (hj : j < vs.length), j < k → btw a b vs[j].p = false) ∧ Hid (Below w.heap.size w wr)) (fun iv _ => n - (intOf iv).toNat)
  case atStart => exact ⟨0, Nat.zero_le _, rfl, Lib.hid (fun j hj h => by omega), Lib.hid (Below.refl _ _)⟩
  case round =>
    obtain ⟨k, hkn, rfl, HP, HB⟩ := hrel
    by_cases hlt : k < n
    · have hlt' : (k : Int) < (n : Int) := by omega
      have hkz : (0 : Int) ≤ (k : Int) := by omega
      have hkv : k < vs.length := by rw [← HN.out]; exact hlt
      obtain ⟨g, rfl, r0, r1, r2, r3⟩ := HAt.out k hkv wr HB.out
      have HC := Lib.hid (HCl.out vs[k] wr HB.out)
      have HNx : Hid (btw a b vs[k].p = false → ∀ j (hj : j < vs.length), j < k + 1 → btw a b vs[j].p = false) := Lib.hid (fun h j hj hjk => by
        by_cases e : j = k
        · subst e; exact h
        · exact HP.out j hj (by omega))
      have HHit : Hid (btw a b vs[k].p = true → FirstBtw vs a b (k : Int)) := Lib.hid (fun h => .inr ⟨k, rfl, hkv, HP.out, fun _ => h⟩)
      obtain ⟨v, hv⟩ : ∃ v, v = vs[k].val := ⟨_, rfl⟩
      obtain ⟨z, hz⟩ : ∃ z, z = vs[k].p := ⟨_, rfl⟩
      rw [← hv] at r3 HC
      rw [← hz] at r0 r1 r2 HC HNx HHit
      clear hv hz hkv
      by_cases hbt : btw a b z = true
      · have HC2 := Lib.hid (HC.out.mono fun e w' h => show e = .returned (.bool true) ∧ Below wr.heap.size wr w' from ⟨by rw [h.1]; exact ret_bool hbt, h.2⟩)
        have HH := Lib.hid (HHit.out hbt)
        clear hbt
        go_wp2_with (go_at_call 35; refine Calls.mono HC2.out ?_; rintro e w1 ⟨rfl, hb⟩; have HB1 := Lib.hid (HB.out.trans (hb.mono HB.out.size)); clear hb)
        go_ret
        exact ⟨_, rfl, HH.out, HB1.out⟩
      · have hbf : btw a b z = false := by simpa using hbt
        have HC2 := Lib.hid (HC.out.mono fun e w' h => show e = .returned (.bool false) ∧ Below wr.heap.size wr w' from ⟨by rw [h.1]; exact ret_bool hbf, h.2⟩)
        have HH := Lib.hid (HNx.out hbf)
        clear hbt hbf
        go_wp2_with (go_at_call 35; refine Calls.mono HC2.out ?_; rintro e w1 ⟨rfl, hb⟩; have HB1 := Lib.hid (HB.out.trans (hb.mono HB.out.size)); clear hb)
        go_roundw
        case rel => exact ⟨k + 1, by omega, by go_num, HH, HB1⟩
        case measure => simp [intOf]; omega
    · have hlt' : ¬ (k : Int) < (n : Int) := by omega
      go_wp2
      go_ret
      exact ⟨-1, rfl, .inl ⟨rfl, fun j hj => HP.out j hj (by have := HN.out; omega)⟩, HB.out⟩
end
end Go.Proofs.Ytbmadhmcnjcdfaa
