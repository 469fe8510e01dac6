/- The laws' own look at rows of bytes (Same); how a pair begins. -/
import Derived.Test.YtihkjdoajfjnpaaSesU
import Derived.Deep.RegionHeld3
import Derived.Lib.BufferRead
set_option linter.unusedSimpArgs false
set_option linter.unusedVariables false
namespace Go.Proofs.Ytihkjdoajfjnpaa
open Go.ChangeShapes Go.WideShapes Go.ChangeAt Go.RowKit Go.Base Go.Ses

theorem run_convert_byt {P : Program} {src dst e : TypeId} (hs : P.underlying src = some (.slice e)) (he : P.underlying e = some (.int .u8)) (hd : P.underlying dst = some .string) {w : World} {A : Option Addr} {ys : List UInt8} (n c : Nat) (hn : n = ys.length) (h : Byt w A ys) :
    (convert src dst (.slice A n c)).run P w = .ok (.string ⟨ys.toArray⟩) w := by
  subst hn
  rcases A with _ | ad
  · have : ys = [] := by
      cases ys with
      | nil => rfl
      | cons y ys => obtain ⟨_, _, h, _⟩ := h 0 (by simp); cases h
    subst this
    exact Lib.run_convert_nil_bytes w src dst e c hs he hd
  · refine run_convert_bytes_back w src dst e ad c ys hs he hd (fun j hj => ?_)
    obtain ⟨b, o, e, hc⟩ := h j hj
    injection e with e; subst e
    rw [add_off]; exact hc
/-- A row of byte slices, looked at. -/
def Rows (w : World) (A : Option Addr) (l : List Bytes) : Prop := ∀ (k : Nat) (h : k < l.length), ∃ b a cap, A = some ⟨b, 0, none⟩ ∧ w.cell? ⟨b, k, none⟩ = some (.slice a l[k].length cap) ∧ Byt w a l[k]
theorem Rows.later {w w' : World} {A : Option Addr} {l : List Bytes} (h : Rows w A l) (hb : Below w.heap.size w w') : Rows w' A l := fun k hk => by
  obtain ⟨b, a, cap, e, c, y⟩ := h k hk
  exact ⟨b, a, cap, e, cell_later hb c, y.later hb⟩
theorem Rows.pre {w : World} {A : Option Addr} {l : List Bytes} (h : Rows w A l) (m : List Bytes) (hm : ∀ (k : Nat) b, m[k]? = some b → l[k]? = some b) : Rows w A m := fun k hk => by
  have h1 := hm k _ (List.getElem?_eq_getElem hk)
  obtain ⟨h2, h3⟩ := List.getElem?_eq_some_iff.1 h1
  obtain ⟨b, a, cap, e, c, y⟩ := h k h2
  rw [h3] at c y
  exact ⟨b, a, cap, e, c, y⟩
theorem RowB.rows {B : Nat} {w : World} {v : Value} {l : List Bytes} (h : RowB B w v l) : ∃ A c, v = .slice A l.length c ∧ l.length ≤ c ∧ c ≤ maxLen ∧ Rows w A l := by
  obtain ⟨A, c, vs, e, m, o, b⟩ := h
  have hl := congrArg List.length m
  rw [List.length_map] at hl
  have hcap := own_capK (by rw [e] at o; exact o)
  refine ⟨A, c, e, hcap.1, hcap.2, fun k hk => ?_⟩
  obtain ⟨g, e1, c1⟩ := own_cell o e k (by omega)
  have hkv : k < vs.length := by omega
  have hk2 : l[k] = vs[k].b := by
    have : l[k]? = (vs.map SlV.b)[k]? := by rw [m]
    rw [List.getElem?_map, List.getElem?_eq_getElem hk, List.getElem?_eq_getElem hkv] at this
    exact Option.some.inj this
  refine ⟨g, vs[k].A, vs[k].c, e1, ?_, ?_⟩
  · rw [c1, List.getElem?_map, List.getElem?_eq_getElem hkv, hk2]; rfl
  · rw [hk2]; exact (b _ (List.getElem_mem _)).byt
set_option maxHeartbeats 2000000 in
theorem same_true (A B : Option Addr) (l : List Bytes) (n c d : Nat) (w : World) (hn : l.length = n) (hA : Rows w A l) (hB : Rows w B l) (hm : n ≤ maxLen) :
    Calls Try.prog 18 #[.slice A n c, .slice B n d] w fun e w' => e = .returned (.bool true) ∧ Below w.heap.size w w' := by
  have HA := Lib.hid hA
  have HB := Lib.hid hB
  have HN := Lib.hid hn
  unfold maxLen at hm
  have hm' : (n : Int) ≤ 9223372036854775807 := by omega
  clear hA hB hn hm
  go_enter Try.func18, Try.ntmps18
  go_wp2
  go_loopw [5] (fun i wr => ∃ k : Nat, k ≤ n ∧ i = .int .i64 (k : Int) ∧ Hid (Below w.heap.size w wr)) (fun i _ => n - (intOf i).toNat)
  case atStart => exact ⟨0, Nat.zero_le _, rfl, Lib.hid (Below.refl _ _)⟩
  case round =>
    obtain ⟨k, hk, rfl, HBr⟩ := hrel
    by_cases hlt : k < n
    · have hlt' : (k : Int) < (n : Int) := by omega
      have hk0 : (0 : Int) ≤ (k : Int) := by omega
      have hkl : k < l.length := by have := HN.out; omega
      obtain ⟨b, a, cap, rfl, c0, hy⟩ := (HA.out.later HBr.out) k hkl
      obtain ⟨b', a', cap', rfl, d0, hy'⟩ := (HB.out.later HBr.out) k hkl
      have HY := Lib.hid hy
      have HY' := Lib.hid hy'
      generalize l[k] = y at *
      clear hy hy' hkl
      have hself : ((⟨y.toArray⟩ : ByteArray).toList == (⟨y.toArray⟩ : ByteArray).toList) = true := beq_self_eq_true _
      go_wp2_with fail
      go_region_held3 (fun w' => w'.cell? ⟨b, k, none⟩ = some (.slice a y.length cap) ∧ w'.cell? ⟨b', k, none⟩ = some (.slice a' y.length cap') ∧ (convert 27 9 (.slice a y.length cap)).run Try.prog w' = .ok (.string ⟨y.toArray⟩) w' ∧ (convert 27 9 (.slice a' y.length cap')).run Try.prog w' = .ok (.string ⟨y.toArray⟩) w') (((try dsimp only); exact And.intro c0 (And.intro d0 (And.intro (run_convert_byt Try.underlying27 Try.underlying5 Try.underlying9 _ cap rfl (show Byt _ _ _ from HY.out)) (run_convert_byt Try.underlying27 Try.underlying5 Try.underlying9 _ cap' rfl (show Byt _ _ _ from HY'.out)))))) (fail)
      all_goals
        go_wp2
        go_roundw
        case rel => exact ⟨k + 1, by omega, by go_num, Lib.hid HBr.out.drew⟩
        case measure => simp [intOf]; omega
    · obtain rfl : k = n := by omega
      go_wp2
      go_ret
      exact ⟨rfl, HBr.out⟩
/-- The pair as the laws begin it. -/
def X0 : Nat → Side := fun _ => newSide
end Go.Proofs.Ytihkjdoajfjnpaa
