/- A net of the call's own; what every program must do (lives); a nil net. -/
import Derived.Test.YtbmadhmcnjcdfaaNetH
import Derived.Lib.BufferRead
import Derived.Lib.SlBytesConst
set_option linter.unusedSimpArgs false
set_option linter.unusedVariables false
namespace Go.Proofs.Ytbmadhmcnjcdfaa
open Go.ChangeShapes Go.WideShapes Go.ChangeAt Go.RowKit Go.Base Go.Net

theorem run_convert_byt {P : Program} {src dst e : TypeId} (hs : P.underlying src = some (.slice e)) (he : P.underlying e = some (.int .u8)) (hd : P.underlying dst = some .string) {w : World} {A : Option Addr} {ys : List UInt8} (n c : Nat) (hn : n = ys.length) (h : Byt w A ys) :
    (convert src dst (.slice A n c)).run P w = .ok (.string ⟨ys.toArray⟩) w := by
  subst hn
  rcases A with _ | ad
  · have : ys = [] := by
      cases ys with
      | nil => rfl
      | cons y ys => obtain ⟨_, _, h, _⟩ := h 0 (by simp); cases h
    subst this
    exact Lib.run_convert_nil_bytes w src dst e c hs he hd
  · refine run_convert_bytes_back w src dst e ad c ys hs he hd (fun j hj => ?_)
    obtain ⟨b, o, e, hc⟩ := h j hj
    injection e with e; subst e
    rw [add_off]; exact hc
/-- A net in blocks from B on. -/
def NL (T : TypeId) (B : Nat) (w : World) (p : Nat) (s : St) : Prop := NT T (fun k => B ≤ k) w p s ∧ B ≤ w.heap.size
section
variable {T : TypeId} {B : Nat} {w w1 w' : World} {p : Nat} {s s2 : St} {v : Value} {e : Ending}
theorem NL.later (h : NL T B w p s) (hb : Below w.heap.size w w') : NL T B w' p s := ⟨h.1.later hb, Nat.le_trans h.2 hb.size⟩
theorem NL.op (hB : B ≤ w.heap.size) (h : OpN T (fun k => B ≤ k) p s2 v w e w') : e = .returned v ∧ NL T B w' p s2 ∧ Below B w w' :=
  ⟨h.1, ⟨h.2.1.wide (fun k hk => hk.elim id (fun h => Nat.le_trans hB h)), Nat.le_trans hB h.2.2.size⟩, h.2.2.below (fun k _ h => h) hB⟩
theorem sendL (h : NL T B w p s) (fr dst : Int) (A0 : Option Addr) (b : List UInt8) (c0 : Nat) (hy : Byt w A0 b) (hm : b.length ≤ 9223372036854775807) (hk1 : s.last + 1 ≤ 9223372036854775807) (hk2 : s.lost + 1 ≤ 9223372036854775807) :
    Calls Try.prog 10 #[.pointer (some ⟨p, 0, none⟩), .int .i64 fr, .int .i64 dst, .slice A0 b.length c0] w fun e w' => e = .returned (.tuple #[.int .i64 (sendS s fr dst b).1.1, .int .i64 (sendS s fr dst b).1.2]) ∧ NL T B w' p (sendS s fr dst b).2 ∧ Below B w w' := by
  obtain ⟨⟨A, c, vs, hx⟩, hB⟩ := h
  exact (send_any hx fr dst A0 b c0 hy hm hk1 hk2).mono fun e w' h => NL.op hB h
theorem againL (h : NL T B w p s) (i : Int) (hk1 : s.last + 1 ≤ 9223372036854775807) (hk2 : s.lost + 1 ≤ 9223372036854775807) :
    Calls Try.prog 17 #[.pointer (some ⟨p, 0, none⟩), .int .i64 i] w fun e w' => e = .returned (.tuple #[.int .i64 (againS s i).1.1, .int .i64 (againS s i).1.2]) ∧ NL T B w' p (againS s i).2 ∧ Below B w w' := by
  obtain ⟨⟨A, c, vs, hx⟩, hB⟩ := h
  exact (again_any hx i hk1 hk2).mono fun e w' h => NL.op hB h
theorem dropL (h : NL T B w p s) (i : Int) (hk2 : s.lost + 1 ≤ 9223372036854775807) :
    Calls Try.prog 15 #[.pointer (some ⟨p, 0, none⟩), .int .i64 i] w fun e w' => e = .returned (.int .i64 (dropS s i).1) ∧ NL T B w' p (dropS s i).2 ∧ Below B w w' := by
  obtain ⟨⟨A, c, vs, hx⟩, hB⟩ := h
  exact (drop_any hx i hk2).mono fun e w' h => NL.op hB h
theorem takeL_hit (h : NL T B w p s) (i : Int) (q : Pk) (hq : s.l[idx s.l i]? = some q) :
    Calls Try.prog 12 #[.pointer (some ⟨p, 0, none⟩), .int .i64 i] w fun e w' => ∃ A c, e = .returned (.tuple #[.agg #[.int .i64 q.id, .int .i64 q.fr, .int .i64 q.dst, .slice A q.body.length c], .int .i64 0]) ∧ Byt w' A q.body ∧ NL T B w' p (takeS s i) ∧ Below B w w' := by
  obtain ⟨⟨A, c, vs, hx⟩, hB⟩ := h
  refine (take_any hx i).mono fun e w' ⟨hm, h1, _⟩ => ?_
  obtain ⟨hn, A2, c2, he, hy⟩ := h1 q hq
  exact ⟨A2, c2, he, hy, ⟨hn.wide (fun k hk => hk.elim id (fun h => Nat.le_trans hB h)), Nat.le_trans hB hm.size⟩, hm.below (fun k _ h => h) hB⟩
theorem takeL_miss (h : NL T B w p s) (i : Int) (hq : s.l[idx s.l i]? = none) :
    Calls Try.prog 12 #[.pointer (some ⟨p, 0, none⟩), .int .i64 i] w fun e w' => e = .returned (.tuple #[.agg #[.int .i64 0, .int .i64 0, .int .i64 0, .slice none 0 0], .int .i64 4]) ∧ NL T B w' p s ∧ Below B w w' := by
  obtain ⟨⟨A, c, vs, hx⟩, hB⟩ := h
  refine (take_any hx i).mono fun e w' ⟨hm, _, h1⟩ => ?_
  obtain ⟨hn, he⟩ := h1 hq
  exact ⟨he, ⟨hn.wide (fun k hk => hk.elim id (fun h => Nat.le_trans hB h)), Nat.le_trans hB hm.size⟩, hm.below (fun k _ h => h) hB⟩
theorem lenL (h : NL T B w p s) : Calls Try.prog 23 #[.pointer (some ⟨p, 0, none⟩)] w fun e w' => e = .returned (.int .i64 (s.l.length : Int)) ∧ w = w' := by
  obtain ⟨⟨A, c, vs, hx⟩, hB⟩ := h
  exact len_any hx
theorem lostL (h : NL T B w p s) : Calls Try.prog 22 #[.pointer (some ⟨p, 0, none⟩)] w fun e w' => e = .returned (.int .i64 s.lost) ∧ w = w' := by
  obtain ⟨⟨A, c, vs, hx⟩, hB⟩ := h
  exact lost_any hx
theorem newL {n : Int} (h0 : 1 ≤ n) (h1 : n ≤ 65537) (w : World) : Calls Try.prog 7 #[.int .i64 n] w fun e w' => ∃ p : Nat, e = .returned (.tuple #[.pointer (some ⟨p, 0, none⟩), .int .i64 0]) ∧ NL 55 w.heap.size w' p ⟨n, 0, 0, []⟩ ∧ Below w.heap.size w w' :=
  (new_any n w).mono fun e w' h => by
    unfold NewPost at h
    rw [if_pos ⟨h0, h1⟩] at h
    obtain ⟨p, he, hn, hb⟩ := h
    exact ⟨p, he, ⟨hn, hb.size⟩, hb⟩
end
def sA : St := ⟨3, 1, 0, [⟨1, 0, 2, [120]⟩]⟩
def sB : St := ⟨3, 2, 0, [⟨1, 0, 2, [120]⟩, ⟨2, 0, 2, [120]⟩]⟩
def sD : St := ⟨3, 2, 1, []⟩
theorem sA_is : sendS ⟨3, 0, 0, []⟩ 0 2 [120] = ((1, 0), sA) := rfl
theorem sB_is : againS sA 1 = ((2, 0), sB) := rfl
theorem sD_is : dropS (takeS sB 2) 1 = (0, sD) := rfl
set_option maxHeartbeats 4000000 in
set_option maxRecDepth 20000 in
theorem nlives_any (w : World) : Calls Try.prog 9 #[] w fun e w' => e = .returned (.bool true) ∧ Below w.heap.size w w' := by
  have hC := fun (V : World) (A : Option Addr) (c : Nat) (h : Byt V A [120]) => run_convert_byt (P := Try.prog) (src := 31) (dst := 9) Try.underlying31 Try.underlying5 Try.underlying9 1 c rfl h
  have HCv := Lib.hid hC
  clear hC
  go_enter Try.func9, Try.ntmps9
  have kc := fun (w : World) (C : Array Value) (n c : Nat) => Lib.run_convert_bytes_const (P := Try.prog) w 31 5 C n c Try.underlying31 Try.underlying5
  go_wp2_with (first
    | (go_at_call 7; refine Calls.mono (newL (by decide) (by decide) _) ?_; rintro e w1 ⟨p, rfl, hn, hb⟩; have HN := Lib.hid hn; have HB := Lib.hid hb; clear hn hb)
    | (go_at_call 10; refine Calls.mono (sendL (HN.out.later (below_alloc w1 (.cells #[.int .u8 120] 5 (1, 2)))) 0 2 _ [120] 1 (byt_new w1 [120] 5 (1, 2) #[.int .u8 120] rfl) (by decide) (by decide) (by decide)) ?_; rw [sA_is]; rintro e w2 ⟨rfl, hn, hb⟩; have HN2 := Lib.hid hn; have HB2 := Lib.hid ((HB.out.alloc HB.out.size _).trans hb); clear hn hb)
    | (go_at_call 17; refine Calls.mono (againL HN2.out 1 (by decide) (by decide)) ?_; rw [sB_is]; rintro e w3 ⟨rfl, hn, hb⟩; have HN3 := Lib.hid hn; have HB3 := Lib.hid (HB2.out.trans hb); clear hn hb)
    | (go_at_call 12; refine Calls.mono (takeL_hit HN3.out 2 ⟨2, 0, 2, [120]⟩ rfl) ?_; rintro e w4 ⟨A4, c4, rfl, hy, hn, hb⟩; have HN4 := Lib.hid (hn.later (below_alloc w4 (.cells #[.int .i64 2, .int .i64 0, .int .i64 2, .slice A4 1 c4] 37))); have HB4 := Lib.hid ((HB3.out.trans hb).alloc ((HB3.out.trans hb)).size (.cells #[.int .i64 2, .int .i64 0, .int .i64 2, .slice A4 1 c4] 37)); have HY4 := Lib.hid (hy.alloc (.cells #[.int .i64 2, .int .i64 0, .int .i64 2, .slice A4 1 c4] 37)); clear hn hb hy)
    | (rw [HCv.out _ A4 c4 HY4.out])
    | (go_at_call 23; refine Calls.mono (lenL HN4.out) ?_; rintro e w5 ⟨rfl, rfl⟩; simp only [takeS, sB, idx])
    | (go_at_call 15; refine Calls.mono (dropL HN4.out 1 (by decide)) ?_; rw [sD_is]; rintro e w6 ⟨rfl, hn, hb⟩; have HN6 := Lib.hid hn; have HB6 := Lib.hid (HB4.out.trans hb); clear hn hb)
    | (go_at_call 22; refine Calls.mono (lostL HN6.out) ?_; rintro e w7 ⟨rfl, rfl⟩; simp only [sD]))
  go_ret
  exact ⟨rfl, HB6.out⟩
end Go.Proofs.Ytbmadhmcnjcdfaa
