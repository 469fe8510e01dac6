/- Walk of the laws of package mix: what must come of every program. -/
import Derived.Test.YtloemgdfmagbnaaDoorMixC
import Derived.Lib.SlBytesConst
set_option linter.unusedSimpArgs false
set_option linter.unusedVariables false
namespace Go.Proofs.YtloemgdfmagbnaaDoor
open Go.ChangeShapes Go.WideShapes Go.ChangeAt Go.RowKit Go.Base Go.Mx

theorem Tab.later {w w' : World} (h : Tab w) (hb : Below w.heap.size w w') : Tab w' := fun k hk => by
  have c := h k hk
  rw [hb.cell (World.block_lt_of_cell? w _ c)]; exact c
theorem Tab.alloc {w : World} (h : Tab w) (o : Obj) : Tab (w.alloc o) := h.later (below_alloc w o)
/-- Two parts, laid one behind the other. -/
theorem parts_two {w : World} {a b : Option Addr} {x y : List UInt8} {ca cb : Nat} (t : TypeId) (ha : Byt w a x) (hb : Byt w b y) (hx : x.length ≤ maxLen) (hy : y.length ≤ maxLen) :
    Parts (w.alloc (.cells #[.slice a x.length ca, .slice b y.length cb] t)) (some ⟨w.heap.size, 0, none⟩) [x, y] := fun i hi => by
  match i, hi with
  | 0, _ => exact ⟨w.heap.size, 0, a, ca, rfl, by rw [Nat.zero_add, cell_new]; rfl, ha.alloc _, hx⟩
  | 1, _ => exact ⟨w.heap.size, 0, b, cb, rfl, by rw [Nat.zero_add, cell_new]; rfl, hb.alloc _, hy⟩
theorem parts_one {w : World} {a : Option Addr} {x : List UInt8} {ca : Nat} (t : TypeId) (ha : Byt w a x) (hx : x.length ≤ maxLen) :
    Parts (w.alloc (.cells #[.slice a x.length ca] t)) (some ⟨w.heap.size, 0, none⟩) [x] := fun i hi => by
  match i, hi with
  | 0, _ => exact ⟨w.heap.size, 0, a, ca, rfl, by rw [Nat.zero_add, cell_new]; rfl, ha.alloc _, hx⟩

abbrev digits4 : Array Value := #[.int .u8 49, .int .u8 50, .int .u8 51, .int .u8 52]
abbrev digits5 : Array Value := #[.int .u8 53, .int .u8 54, .int .u8 55, .int .u8 56, .int .u8 57]
theorem parts_digits (w : World) : Parts (((w.alloc (.cells digits4 5 (4, 5))).alloc (.cells digits5 5 (5, 6))).alloc (.cells #[.slice (some ⟨w.heap.size, 0, none⟩) 4 4, .slice (some ⟨w.heap.size + 1, 0, none⟩) 5 5] 22)) (some ⟨w.heap.size + 2, 0, none⟩) [[49, 50, 51, 52], [53, 54, 55, 56, 57]] := by
  have h1 : Byt (w.alloc (.cells digits4 5 (4, 5))) (some ⟨w.heap.size, 0, none⟩) [49, 50, 51, 52] := byt_new w _ _ _ _ rfl
  have h2 : Byt ((w.alloc (.cells digits4 5 (4, 5))).alloc (.cells digits5 5 (5, 6))) (some ⟨w.heap.size + 1, 0, none⟩) [53, 54, 55, 56, 57] := by
    have := byt_new (w.alloc (.cells digits4 5 (4, 5))) [53, 54, 55, 56, 57] 5 (5, 6) digits5 rfl
    rwa [size_alloc] at this
  have := parts_two (ca := 4) (cb := 5) 22 (h1.alloc (.cells digits5 5 (5, 6))) h2 (by decide) (by decide)
  rwa [size_alloc, size_alloc] at this

theorem sum_digits : sum [[49, 50, 51, 52], [53, 54, 55, 56, 57]].flatten = 3421780262 := by decide +kernel
theorem hash_a : Mx.hash [[97]] = 10579066225464359 := by decide +kernel
theorem hash_b : Mx.hash [[98]] = 10479671669101361480 := by decide +kernel
theorem spr_one (l : List (List UInt8)) : spr 1 l = 0 := by
  have := spr_bd 1 l (by omega); omega
theorem unmix_77 : unmix (mix 77) = 77 := unmix_mix (by omega)

theorem hash_lit (x : List UInt8) (w : World) (g : Nat) (hx : x.length ≤ maxLen) (hg : g = w.heap.size) :
    Calls Tryd.prog 19 #[.slice (some ⟨g, 0, none⟩) 1 1] (w.alloc (.cells #[.string ⟨x.toArray⟩] 9)) fun e w' => e = .returned (.int .u64 (Mx.hash [x] : Nat)) ∧ w.alloc (.cells #[.string ⟨x.toArray⟩] 9) = w' := by
  subst hg
  exact hash_any _ [x] 1 _ (strs_one w _ x hx) (by simp [maxLen])
theorem spread_lit (x : List UInt8) (w : World) (g : Nat) (hx : x.length ≤ maxLen) (hg : g = w.heap.size) :
    Calls Tryd.prog 18 #[.int .i64 1, .slice (some ⟨g, 0, none⟩) 1 1] (w.alloc (.cells #[.string ⟨x.toArray⟩] 9)) fun e w' => e = .returned (.int .i64 0) ∧ w.alloc (.cells #[.string ⟨x.toArray⟩] 9) = w' := by
  subst hg
  have h := spread_any 1 _ [x] 1 _ (by omega) (strs_one w 9 x hx) (by simp [maxLen])
  rw [spr_one] at h
  exact h

set_option maxHeartbeats 1000000 in
theorem lives_any (w : World) (ht : Tab w) :
    Calls Tryd.prog 11 #[] w fun e w' => e = .returned (.bool true) ∧ Below w.heap.size w w' := by
  have hc1 := Lib.run_convert_bytes_const (P := Tryd.prog) w 22 5 digits4 4 4 Tryd.underlying22 Tryd.underlying5
  have hc2 := Lib.run_convert_bytes_const (P := Tryd.prog) (w.alloc (.cells digits4 5 (4, 5))) 22 5 digits5 5 5 Tryd.underlying22 Tryd.underlying5
  rw [size_alloc] at hc2
  simp only [List.size_toArray, List.length_cons, List.length_nil, Nat.zero_add, Nat.reduceAdd] at hc1 hc2
  have HT := Lib.hid ht
  have HP := Lib.hid (parts_digits w)
  have ml := mix_lt 77
  clear ht
  go_enter Tryd.func11, Tryd.ntmps11
  go_wp2_with (first | (go_at_call 12; refine (sum_any _ [[49, 50, 51, 52], [53, 54, 55, 56, 57]] _ _ (((HT.out.alloc _).alloc _).alloc _) HP.out (by decide)).mono ?_; rintro e w' ⟨rfl, rfl⟩; rw [sum_digits]) | (go_at_call 15; refine (mix_any 77 _ (by omega)).mono ?_; rintro e w' ⟨rfl, rfl⟩) | (go_at_call 17; refine (unmix_any _ _ ml).mono ?_; rintro e w' ⟨rfl, rfl⟩; rw [unmix_77]) | (go_at_call 19; refine (hash_lit [97] _ _ (by decide) (by simp)).mono ?_; rintro e w' ⟨rfl, rfl⟩; rw [hash_a]) | (go_at_call 19; refine (hash_lit [98] _ _ (by decide) (by simp)).mono ?_; rintro e w' ⟨rfl, rfl⟩; rw [hash_b]) | (go_at_call 18; refine (spread_lit [120] _ _ (by decide) (by simp)).mono ?_; rintro e w' ⟨rfl, rfl⟩))
  go_ret
  exact ⟨rfl, by go_grown⟩
end Go.Proofs.YtloemgdfmagbnaaDoor
