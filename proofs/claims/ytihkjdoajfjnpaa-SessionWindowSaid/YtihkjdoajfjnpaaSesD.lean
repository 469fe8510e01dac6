/- Package session: newLink, New. -/
import Derived.Test.YtihkjdoajfjnpaaSesC
set_option linter.unusedSimpArgs false
set_option linter.unusedVariables false
namespace Go.Proofs.Ytihkjdoajfjnpaa
open Go.ChangeShapes Go.WideShapes Go.ChangeAt Go.RowKit Go.Base Go.Ses

section
variable {F G : Nat → Prop} {w w1 w' : World} {p : Nat} {s s2 : Ss} {A : Option Addr} {c : Nat} {vs : List SlV} {bm : Nat} {D : DataW Value} {q : Nat → Prop}
def LinkPost (y : Int) (w : World) (e : Ending) (w' : World) : Prop := ∃ bm, e = .returned (.agg (linkC (newL y) none 0 0 bm).toArray) ∧ w'.ownsMap Try.prog 3 idE bm 0 (.map []) ∧ Below w.heap.size w w' ∧ w.heap.size ≤ bm ∧ bm < w'.heap.size
set_option maxHeartbeats 1000000 in
set_option maxRecDepth 20000 in
theorem newLink_any (y : Int) (w : World) : Calls Try.prog 21 #[.int .i64 y] w (LinkPost y w) := by
  have hmm := @run_makeMap Try.prog
  obtain ⟨Z, hZ⟩ : ∃ Z : Array Value, Z = #[.int .i64 0, .bool false, .bool false, .bool false, .int .i64 0, .slice none 0 0, .int .i64 0, .bool false, .int .i64 0, .map none, .int .i64 0, .int .i64 0, .int .i64 0, .int .i64 0] := ⟨_, rfl⟩
  obtain ⟨w1, hw1⟩ : ∃ w1, w1 = w.alloc (.cells Z 58) := ⟨_, rfl⟩
  have hb1 : Below w.heap.size w w1 := by rw [hw1]; exact below_alloc _ _
  have k1 : w1.heap[w.heap.size]? = some (.cells Z 58 (0, 0)) := by rw [hw1]; exact heap_new w _
  obtain ⟨w2, hw2⟩ : ∃ w2, w2 = w1.alloc (.map #[] 0) := ⟨_, rfl⟩
  have hb2 : Below w.heap.size w w2 := by rw [hw2]; exact hb1.alloc hb1.size _
  have k2 : w2.heap[w.heap.size]? = some (.cells Z 58 (0, 0)) := by rw [hw2]; exact heap_old _ (heap_lt k1) k1
  have hz1 : w1.heap.size = w.heap.size + 1 := by rw [hw1]; simp
  have hz2 : w2.heap.size = w.heap.size + 2 := by rw [hw2]; simp; omega
  have hm2 : w2.ownsMap Try.prog 3 idE w1.heap.size 0 (.map []) := by rw [hw2]; exact World.ownsMap_made _ _ _ _
  have HW1 := Lib.hid hw1
  have HW2 := Lib.hid hw2
  have HB2 := Lib.hid hb2
  have HK2 := Lib.hid k2
  have HM2 := Lib.hid hm2
  have HZ1 := Lib.hid hz1
  have HZ2 := Lib.hid hz2
  have HZs : Hid (Z.size = 14) := Lib.hid (by rw [hZ]; rfl)
  have HZv := Lib.hid hZ
  clear hw1 hb1 k1 hw2 hb2 k2 hz1 hz2 hm2 hZ
  go_enter Try.func21, Try.ntmps21
  go_wp2_with (first
    | rw [← HZv.out, ← HW1.out]
    | rw [← HW2.out]
    | (refine wpList_store_new rfl 58 (.tmp 2) (.tmp 7) rfl w.heap.size (linkC (newL y) none 0 0 w1.heap.size).toArray rfl rfl 58 Z (((HX4.out.block _ (by have := HZ2.out; omega)).trans HK2.out)) (by kernel_rfl) HZs.out rfl ?_; intro w5 hz5 hb5 hk5 ho5; have HB5 := Lib.hid (hb5 w.heap.size w HB4.out (Nat.le_refl _)); have HL5 : Hid (w1.heap.size < w5.heap.size) := Lib.hid (by rw [hz5]; have := HX4.out.size; have := HZ2.out; have := HZ1.out; omega); have HM6 : Hid (w5.ownsMap Try.prog 3 idE w1.heap.size 0 (.map [])) := Lib.hid (by have hM := own_mapK (q := fun _ => False) HM2.out (Below.movedNew HX4.out) (fun h => h); exact own_mapK (q := fun k => k = w.heap.size) hM ⟨(hb5 0 w4 (Below.refl _ _) (Nat.zero_le _)).os, (hb5 0 w4 (Below.refl _ _) (Nat.zero_le _)).tape, (hb5 0 w4 (Below.refl _ _) (Nat.zero_le _)).output, (hb5 0 w4 (Below.refl _ _) (Nat.zero_le _)).size, fun k _ hn => ho5 k hn⟩ (by have := HZ1.out; omega)); have kk := (cells_of_heap hk5).1; clear hz5 hb5 hk5 ho5)
    | (go_at_call 29; refine Calls.mono (by with_reducible exact pace_any w2) ?_; rintro e w3 ⟨rfl, hb⟩; have HB3 := Lib.hid (HB2.out.trans (hb.mono HB2.out.size)); have HX3 := Lib.hid hb; clear hb)
    | (go_at_call 29; refine Calls.mono (by with_reducible exact pace_any w3) ?_; rintro e w4 ⟨rfl, hb⟩; have HB4 := Lib.hid (HB3.out.trans (hb.mono HB3.out.size)); have HX4 := Lib.hid (HX3.out.trans (hb.mono HX3.out.size)); clear hb))
  go_wp2
  refine bodyPost_ret (v := .agg (linkC (newL y) none 0 0 w1.heap.size).toArray) ?_ rfl ⟨w1.heap.size, rfl, HM6.out, HB5.out, by have := HZ1.out; omega, HL5.out⟩
  simp [results, Try.results21, go_sem, linkC, newL, kk]
theorem ses_new {m y : Int} (hm : 1 ≤ m ∧ m ≤ 2147483647) (hy : 0 ≤ y ∧ y ≤ 2147483647) (hs : w.heap[p]? = some (.cells (sesC ⟨m, newL y⟩ none 0 0 bm) 60 (0, 0))) (hown : w.ownsMap Try.prog 3 idE bm 0 (.map [])) (hF : F p ∧ F bm) : SesX w F p ⟨m, newL y⟩ none 0 [] bm (.map []) :=
  ⟨ok_newL hm hy false, hs, World.ownsRow_nil _ _ _ _, rfl, (fun x hx => (by cases hx)), hown, Nat.le_refl _, (fun j _ => rfl), (fun j b hj => (by cases hj)), ⟨hF.1, hF.2, (fun k hk => (by cases hk))⟩⟩
theorem new_any {m : Int} (hm : 1 ≤ m ∧ m ≤ 2147483647) (w : World) : Calls Try.prog 16 #[.int .i64 m] w fun e w' => ∃ p : Nat, e = .returned (.tuple #[.pointer (some ⟨p, 0, none⟩), .int .i64 0]) ∧ SE (fun k => w.heap.size ≤ k) w' p (newS m) ∧ Below w.heap.size w w' := by
  have HM := Lib.hid hm
  obtain ⟨h0, h1⟩ := hm
  have HL := Lib.hid (newLink_any 0 w)
  go_enter Try.func16, Try.ntmps16
  go_wp2_with (go_at_call 21; refine Calls.mono (by with_reducible exact HL.out) ?_; rintro e w1 ⟨bm, rfl, ho, hb, hl1, hl2⟩; have HO := Lib.hid ho; have HB := Lib.hid hb; have HL1 := Lib.hid hl1; have HL2 := Lib.hid hl2; clear ho hb hl1 hl2; simp only [linkC, newL])
  go_ret2
  refine ⟨_, rfl, (ses_new HM.out ⟨by omega, by omega⟩ (heap_new w1 _) (own_mapK (q := fun _ => False) HO.out (Below.movedNew (below_alloc _ _)) (fun h => h)) ⟨HB.out.size, HL1.out⟩).se, HB.out.alloc HB.out.size _⟩
end
end Go.Proofs.Ytihkjdoajfjnpaa
