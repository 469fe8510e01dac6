/- The law StoreCuts. -/
import Derived.Test.YtobgiialecgpnaaStoR
import Derived.Test.YtobgiialecgpnaaInts
set_option linter.unusedSimpArgs false
set_option linter.unusedVariables false
namespace Go.Sto
/-- A store of one file. -/
def one (s bs : List UInt8) (q : Nat) (t : Bool) : St := ⟨[⟨s, bs, q, t⟩], 1048576, -1⟩
theorem look_one (s bs : List UInt8) (q : Nat) (t : Bool) : look [⟨s, bs, q, t⟩] s = some ⟨s, bs, q, t⟩ := by unfold look; simp
theorem left_one : ¬ (-1 : Int) = 0 := by decide
theorem used_one (f : Fil) : used [f] = f.bytes.length := by unfold used; simp
theorem app_none {s b : List UInt8} (ho : okName s = true) (h : b.length ≤ 1000) : appendR ⟨[], 1048576, -1⟩ s b = (0, one s b 0 false) := by
  unfold appendR
  rw [if_pos ho, if_neg (by exact left_one)]
  show (if _ then _ else _) = _
  rw [if_neg (by show ¬ (64 ≤ 0 ∨ 1048576 - 0 < b.length); omega)]
  rfl
theorem app_one {s bs b : List UInt8} {q : Nat} {t : Bool} (ho : okName s = true) (h1 : bs.length ≤ 1000) (h : b.length ≤ 1000) : appendR (one s bs q t) s b = (0, one s (bs ++ b) q t) := by
  unfold appendR one
  rw [if_pos ho, if_neg (by exact left_one)]
  show (match look [⟨s, bs, q, t⟩] s with | none => _ | some f => _) = _
  rw [look_one]
  show (if _ then _ else _) = _
  rw [if_neg (by rw [used_one]; show ¬ (1048576 - bs.length < b.length); omega), ins_cons, if_pos rfl]
  rfl
theorem sync_one {s bs : List UInt8} {q : Nat} {t : Bool} (ho : okName s = true) : syncR (one s bs q t) s = (0, one s bs bs.length true) := by
  unfold syncR stepF one
  rw [if_pos ho, if_neg (by exact left_one)]
  show (match look [⟨s, bs, q, t⟩] s with | none => _ | some f => _) = _
  rw [look_one]
  show (0, St.mk (ins ⟨s, bs, bs.length, true⟩ [⟨s, bs, q, t⟩]) 1048576 (wear (-1))) = _
  rw [ins_cons, if_pos rfl]
  rfl
theorem cut_one {s bs : List UInt8} {q : Nat} {t : Bool} (ho : okName s = true) {z : Int} (hz : 0 ≤ z) : cutR (one s bs q t) s z = (0, one s (bs.take z.toNat) (min q (min z.toNat bs.length)) true) := by
  unfold cutR stepF one
  rw [if_pos (by rw [ho, decide_eq_true hz]; rfl), if_neg (by exact left_one)]
  show (match look [⟨s, bs, q, t⟩] s with | none => _ | some f => _) = _
  rw [look_one]
  show (0, St.mk (ins ⟨s, bs.take z.toNat, min q (min z.toNat bs.length), true⟩ [⟨s, bs, q, t⟩]) 1048576 (wear (-1))) = _
  rw [ins_cons, if_pos rfl]
  rfl
theorem read_one {s bs : List UInt8} {q : Nat} {t : Bool} (ho : okName s = true) : readR (one s bs q t) s = (0, bs) := by
  unfold readR one
  rw [if_pos ho, if_neg (by exact left_one)]
  show (match look [⟨s, bs, q, t⟩] s with | none => _ | some f => _) = _
  rw [look_one]
theorem crash_one (s bs : List UInt8) (q : Nat) : crashR (one s bs q true) [] = (0, one s (bs.take q) q true) := by
  unfold crashR one crashed
  show (0, St.mk ([crashF [] ⟨s, bs, q, true⟩].filter (·.stays)) 1048576 (-1)) = _
  rw [List.filter_cons, if_pos (by unfold crashF; rfl)]
  rfl
theorem ok_a : okName [97] = true := by decide
end Go.Sto
namespace Go.Proofs.Ytobgiialecgpnaa
open Go.ChangeShapes Go.WideShapes Go.ChangeAt Go.RowKit Go.Base Go.Sto Go.Maps

theorem Kepts.nil (w : World) (A : Option Addr) : Kepts w A [] := fun i hi => by cases hi
theorem str_app (x y : List UInt8) : ((⟨x.toArray⟩ : ByteArray) ++ ⟨y.toArray⟩) = ⟨(x ++ y).toArray⟩ := by apply ByteArray.ext; simp
theorem str_cut (x : List UInt8) (n : Nat) : (⟨x.toArray⟩ : ByteArray).extract 0 n = ⟨(x.take n).toArray⟩ := by
  apply ByteArray.ext
  simp
def ReadS (tl : Nat) (U : ByteArray) (w : World) (e : Ending) (w' : World) : Prop := ∃ A c, e = .returned (.tuple #[.slice A tl c, .int .i64 0]) ∧ (convert 31 9 (.slice A tl c)).run Try.prog w' = .ok (.string U) w' ∧ Below w.heap.size w w'
theorem read_one_ls {B0 p : Nat} {w : World} {bs : List UInt8} {q : Nat} {t : Bool} (h : LS B0 w p (Sto.one [97] bs q t)) (tl : Nat) (U : ByteArray) (hl : bs.length = tl) (hU : U = ⟨bs.toArray⟩) : Calls Try.prog 20 #[.pointer (some ⟨p, 0, none⟩), .string ⟨#[97]⟩] w (ReadS tl U w) := by
  refine (read_ls h ⟨#[97]⟩ sz1 bs 0 (by show (readR _ [97]).2 = _; rw [read_one ok_a]) (by show ((readR _ [97]).1 : Int) = _; rw [read_one ok_a]; rfl)).mono fun e w' ⟨A, c, he, hy, hb⟩ => ⟨A, c, by rw [he, hl], ?_, hb⟩
  have := run_convert_byt (P := Try.prog) Try.underlying31 Try.underlying5 Try.underlying9 c hy
  rw [hl] at this
  rw [hU]; exact this
set_option maxHeartbeats 8000000 in
set_option maxRecDepth 20000 in
theorem cuts_walk (A B : Option Addr) (lx ly c d n tl vl : Nat) (w : World) (stA stB stC stD stE : St) (X Y S U VV : ByteArray) (g1' : (lx : Int) ≤ 1000) (g2' : (ly : Int) ≤ 1000)
    (ap1 : ∀ V p, LS w.heap.size V p ⟨[], 1048576, -1⟩ → Below w.heap.size w V → Calls Try.prog 12 #[.pointer (some ⟨p, 0, none⟩), .string ⟨#[97]⟩, .slice A lx c] V (OpPost w.heap.size p stA 0 V))
    (sy : ∀ V p, LS w.heap.size V p stA → Calls Try.prog 15 #[.pointer (some ⟨p, 0, none⟩), .string ⟨#[97]⟩] V (OpPost w.heap.size p stB 0 V))
    (ap2 : ∀ V p, LS w.heap.size V p stB → Below w.heap.size w V → Calls Try.prog 12 #[.pointer (some ⟨p, 0, none⟩), .string ⟨#[97]⟩, .slice B ly d] V (OpPost w.heap.size p stC 0 V))
    (cu : ∀ V p, LS w.heap.size V p stC → Calls Try.prog 16 #[.pointer (some ⟨p, 0, none⟩), .string ⟨#[97]⟩, .int .i64 (n : Int)] V (OpPost w.heap.size p stD 0 V))
    (rd1 : ∀ V p, LS w.heap.size V p stD → Calls Try.prog 20 #[.pointer (some ⟨p, 0, none⟩), .string ⟨#[97]⟩] V (ReadS tl U V))
    (cr : ∀ V p, LS w.heap.size V p stD → Calls Try.prog 19 #[.pointer (some ⟨p, 0, none⟩), .slice none 0 0] V (OpPost w.heap.size p stE 0 V))
    (rd2 : ∀ V p, LS w.heap.size V p stE → Calls Try.prog 20 #[.pointer (some ⟨p, 0, none⟩), .string ⟨#[97]⟩] V (ReadS vl VV V))
    (cv : ∀ V, Below w.heap.size w V → (convert 31 9 (.slice A lx c)).run Try.prog V = .ok (.string X) V ∧ (convert 31 9 (.slice B ly d)).run Try.prog V = .ok (.string Y) V)
    (hXs : X.size = lx) (hYs : Y.size = ly) (hcat : X ++ Y = S) (hSs : S.size = lx + ly) (hUs : U.size = tl) (htl : tl ≤ 2000)
    (hA : (n < lx + ly ∧ S.extract 0 n = U) ∨ (lx + ly ≤ n ∧ U = S)) (hB : (lx < tl ∧ VV = X) ∨ (tl ≤ lx ∧ VV = U)) :
    Calls Try.prog 7 #[.slice A lx c, .slice B ly d, .int .i64 (n : Int)] w fun e w' => e = .returned (.bool true) ∧ Below w.heap.size w w' := by
  have HLi := Lib.hid (fun V => lives_any V)
  have HN := Lib.hid (new_ls (B := w.heap.size) 1048576 1048576 w (by omega) rfl (Nat.le_refl _))
  have Ap1 := Lib.hid ap1
  have Sy := Lib.hid sy
  have Ap2 := Lib.hid ap2
  have Cu := Lib.hid cu
  have Rd1 := Lib.hid rd1
  have Cr := Lib.hid cr
  have Rd2 := Lib.hid rd2
  have Cv := Lib.hid cv
  have g3' : (0 : Int) ≤ (n : Int) := by omega
  have hno : ¬ 9223372036854775807 < lx + ly := by omega
  have hno2 : ¬ 9223372036854775807 < X.size + Y.size := by omega
  clear ap1 sy ap2 cu rd1 cr rd2 cv
  rcases hA with ⟨ha, hext⟩ | ⟨ha, rfl⟩
  · have ha' : (n : Int) < (lx : Int) + (ly : Int) := by omega
    rcases hB with ⟨hb, rfl⟩ | ⟨hb, rfl⟩
    · have hb' : (lx : Int) < (tl : Int) := by omega
      go_enter Try.func7, Try.ntmps7
      go_wp2_with (first
        | (go_at_call 8; refine Calls.mono (by with_reducible exact HN.out) ?_; rintro e w1 ⟨p, rfl, hx, hb⟩; have HX1 := Lib.hid hx; have HB1 := Lib.hid hb; clear hx hb)
        | (go_at_call 10; refine Calls.mono (by with_reducible exact HLi.out _) ?_; rintro e w2 ⟨rfl, hb⟩; have HX2 := Lib.hid (HX1.out.later hb); have HB2 := Lib.hid (HB1.out.trans (hb.mono HB1.out.size)); clear hb HX1)
        | (have tok := HX2; go_at_call 12; refine Calls.mono (by with_reducible exact Ap1.out _ _ HX2.out HB2.out) ?_; rintro e w3 ⟨rfl, hx, hb⟩; have HX3 := Lib.hid hx; have HB3 := Lib.hid (HB2.out.trans hb); clear hx hb HX2 tok)
        | (go_at_call 15; refine Calls.mono (by with_reducible exact Sy.out _ _ HX3.out) ?_; rintro e w4 ⟨rfl, hx, hb⟩; have HX4 := Lib.hid hx; have HB4 := Lib.hid (HB3.out.trans hb); clear hx hb HX3)
        | (have tok := HX4; go_at_call 12; refine Calls.mono (by with_reducible exact Ap2.out _ _ HX4.out HB4.out) ?_; rintro e w5 ⟨rfl, hx, hb⟩; have HX5 := Lib.hid hx; have HB5 := Lib.hid (HB4.out.trans hb); clear hx hb HX4 tok)
        | (go_at_call 16; refine Calls.mono (by with_reducible exact Cu.out _ _ HX5.out) ?_; rintro e w6 ⟨rfl, hx, hb⟩; have HX6 := Lib.hid hx; have HB6 := Lib.hid (HB5.out.trans hb); obtain ⟨q1, q2⟩ := Cv.out w6 HB6.out; clear hx hb HX5)
        | (have tok := HX6; go_at_call 20; refine Calls.mono (by with_reducible exact Rd1.out _ _ HX6.out) ?_; rintro e w7 ⟨A7, c7, rfl, q3, hb⟩; have HX7 := Lib.hid (HX6.out.later hb); have HB7 := Lib.hid (HB6.out.trans (hb.mono HB6.out.size)); clear hb HX6 tok q1 q2)
        | (go_at_call 19; refine Calls.mono (by with_reducible exact Cr.out _ _ HX7.out) ?_; rintro e w8 ⟨rfl, hx, hb⟩; have HX8 := Lib.hid hx; have HB8 := Lib.hid (HB7.out.trans hb); obtain ⟨q4, q5⟩ := Cv.out w8 HB8.out; clear hx hb HX7 q3)
        | (have tok := HX8; go_at_call 20; refine Calls.mono (by with_reducible exact Rd2.out _ _ HX8.out) ?_; rintro e w9 ⟨A9, c9, rfl, q6, hb⟩; have HB9 := Lib.hid (HB8.out.trans (hb.mono HB8.out.size)); clear hb HX8 tok q4 q5))
      go_ret
      exact ⟨rfl, HB9.out⟩
    · have hb' : (tl : Int) ≤ (lx : Int) := by omega
      go_enter Try.func7, Try.ntmps7
      go_wp2_with (first
        | (go_at_call 8; refine Calls.mono (by with_reducible exact HN.out) ?_; rintro e w1 ⟨p, rfl, hx, hb⟩; have HX1 := Lib.hid hx; have HB1 := Lib.hid hb; clear hx hb)
        | (go_at_call 10; refine Calls.mono (by with_reducible exact HLi.out _) ?_; rintro e w2 ⟨rfl, hb⟩; have HX2 := Lib.hid (HX1.out.later hb); have HB2 := Lib.hid (HB1.out.trans (hb.mono HB1.out.size)); clear hb HX1)
        | (have tok := HX2; go_at_call 12; refine Calls.mono (by with_reducible exact Ap1.out _ _ HX2.out HB2.out) ?_; rintro e w3 ⟨rfl, hx, hb⟩; have HX3 := Lib.hid hx; have HB3 := Lib.hid (HB2.out.trans hb); clear hx hb HX2 tok)
        | (go_at_call 15; refine Calls.mono (by with_reducible exact Sy.out _ _ HX3.out) ?_; rintro e w4 ⟨rfl, hx, hb⟩; have HX4 := Lib.hid hx; have HB4 := Lib.hid (HB3.out.trans hb); clear hx hb HX3)
        | (have tok := HX4; go_at_call 12; refine Calls.mono (by with_reducible exact Ap2.out _ _ HX4.out HB4.out) ?_; rintro e w5 ⟨rfl, hx, hb⟩; have HX5 := Lib.hid hx; have HB5 := Lib.hid (HB4.out.trans hb); clear hx hb HX4 tok)
        | (go_at_call 16; refine Calls.mono (by with_reducible exact Cu.out _ _ HX5.out) ?_; rintro e w6 ⟨rfl, hx, hb⟩; have HX6 := Lib.hid hx; have HB6 := Lib.hid (HB5.out.trans hb); obtain ⟨q1, q2⟩ := Cv.out w6 HB6.out; clear hx hb HX5)
        | (have tok := HX6; go_at_call 20; refine Calls.mono (by with_reducible exact Rd1.out _ _ HX6.out) ?_; rintro e w7 ⟨A7, c7, rfl, q3, hb⟩; have HX7 := Lib.hid (HX6.out.later hb); have HB7 := Lib.hid (HB6.out.trans (hb.mono HB6.out.size)); clear hb HX6 tok q1 q2)
        | (go_at_call 19; refine Calls.mono (by with_reducible exact Cr.out _ _ HX7.out) ?_; rintro e w8 ⟨rfl, hx, hb⟩; have HX8 := Lib.hid hx; have HB8 := Lib.hid (HB7.out.trans hb); obtain ⟨q4, q5⟩ := Cv.out w8 HB8.out; clear hx hb HX7 q3)
        | (have tok := HX8; go_at_call 20; refine Calls.mono (by with_reducible exact Rd2.out _ _ HX8.out) ?_; rintro e w9 ⟨A9, c9, rfl, q6, hb⟩; have HB9 := Lib.hid (HB8.out.trans (hb.mono HB8.out.size)); clear hb HX8 tok q4 q5))
      go_ret
      exact ⟨rfl, HB9.out⟩
  · have ha' : (lx : Int) + (ly : Int) ≤ (n : Int) := by omega
    rcases hB with ⟨hb, rfl⟩ | ⟨hb, rfl⟩
    · have hb' : (lx : Int) < (tl : Int) := by omega
      go_enter Try.func7, Try.ntmps7
      go_wp2_with (first
        | (go_at_call 8; refine Calls.mono (by with_reducible exact HN.out) ?_; rintro e w1 ⟨p, rfl, hx, hb⟩; have HX1 := Lib.hid hx; have HB1 := Lib.hid hb; clear hx hb)
        | (go_at_call 10; refine Calls.mono (by with_reducible exact HLi.out _) ?_; rintro e w2 ⟨rfl, hb⟩; have HX2 := Lib.hid (HX1.out.later hb); have HB2 := Lib.hid (HB1.out.trans (hb.mono HB1.out.size)); clear hb HX1)
        | (have tok := HX2; go_at_call 12; refine Calls.mono (by with_reducible exact Ap1.out _ _ HX2.out HB2.out) ?_; rintro e w3 ⟨rfl, hx, hb⟩; have HX3 := Lib.hid hx; have HB3 := Lib.hid (HB2.out.trans hb); clear hx hb HX2 tok)
        | (go_at_call 15; refine Calls.mono (by with_reducible exact Sy.out _ _ HX3.out) ?_; rintro e w4 ⟨rfl, hx, hb⟩; have HX4 := Lib.hid hx; have HB4 := Lib.hid (HB3.out.trans hb); clear hx hb HX3)
        | (have tok := HX4; go_at_call 12; refine Calls.mono (by with_reducible exact Ap2.out _ _ HX4.out HB4.out) ?_; rintro e w5 ⟨rfl, hx, hb⟩; have HX5 := Lib.hid hx; have HB5 := Lib.hid (HB4.out.trans hb); clear hx hb HX4 tok)
        | (go_at_call 16; refine Calls.mono (by with_reducible exact Cu.out _ _ HX5.out) ?_; rintro e w6 ⟨rfl, hx, hb⟩; have HX6 := Lib.hid hx; have HB6 := Lib.hid (HB5.out.trans hb); obtain ⟨q1, q2⟩ := Cv.out w6 HB6.out; clear hx hb HX5)
        | (have tok := HX6; go_at_call 20; refine Calls.mono (by with_reducible exact Rd1.out _ _ HX6.out) ?_; rintro e w7 ⟨A7, c7, rfl, q3, hb⟩; have HX7 := Lib.hid (HX6.out.later hb); have HB7 := Lib.hid (HB6.out.trans (hb.mono HB6.out.size)); clear hb HX6 tok q1 q2)
        | (go_at_call 19; refine Calls.mono (by with_reducible exact Cr.out _ _ HX7.out) ?_; rintro e w8 ⟨rfl, hx, hb⟩; have HX8 := Lib.hid hx; have HB8 := Lib.hid (HB7.out.trans hb); obtain ⟨q4, q5⟩ := Cv.out w8 HB8.out; clear hx hb HX7 q3)
        | (have tok := HX8; go_at_call 20; refine Calls.mono (by with_reducible exact Rd2.out _ _ HX8.out) ?_; rintro e w9 ⟨A9, c9, rfl, q6, hb⟩; have HB9 := Lib.hid (HB8.out.trans (hb.mono HB8.out.size)); clear hb HX8 tok q4 q5))
      go_ret
      exact ⟨rfl, HB9.out⟩
    · have hb' : (tl : Int) ≤ (lx : Int) := by omega
      go_enter Try.func7, Try.ntmps7
      go_wp2_with (first
        | (go_at_call 8; refine Calls.mono (by with_reducible exact HN.out) ?_; rintro e w1 ⟨p, rfl, hx, hb⟩; have HX1 := Lib.hid hx; have HB1 := Lib.hid hb; clear hx hb)
        | (go_at_call 10; refine Calls.mono (by with_reducible exact HLi.out _) ?_; rintro e w2 ⟨rfl, hb⟩; have HX2 := Lib.hid (HX1.out.later hb); have HB2 := Lib.hid (HB1.out.trans (hb.mono HB1.out.size)); clear hb HX1)
        | (have tok := HX2; go_at_call 12; refine Calls.mono (by with_reducible exact Ap1.out _ _ HX2.out HB2.out) ?_; rintro e w3 ⟨rfl, hx, hb⟩; have HX3 := Lib.hid hx; have HB3 := Lib.hid (HB2.out.trans hb); clear hx hb HX2 tok)
        | (go_at_call 15; refine Calls.mono (by with_reducible exact Sy.out _ _ HX3.out) ?_; rintro e w4 ⟨rfl, hx, hb⟩; have HX4 := Lib.hid hx; have HB4 := Lib.hid (HB3.out.trans hb); clear hx hb HX3)
        | (have tok := HX4; go_at_call 12; refine Calls.mono (by with_reducible exact Ap2.out _ _ HX4.out HB4.out) ?_; rintro e w5 ⟨rfl, hx, hb⟩; have HX5 := Lib.hid hx; have HB5 := Lib.hid (HB4.out.trans hb); clear hx hb HX4 tok)
        | (go_at_call 16; refine Calls.mono (by with_reducible exact Cu.out _ _ HX5.out) ?_; rintro e w6 ⟨rfl, hx, hb⟩; have HX6 := Lib.hid hx; have HB6 := Lib.hid (HB5.out.trans hb); obtain ⟨q1, q2⟩ := Cv.out w6 HB6.out; clear hx hb HX5)
        | (have tok := HX6; go_at_call 20; refine Calls.mono (by with_reducible exact Rd1.out _ _ HX6.out) ?_; rintro e w7 ⟨A7, c7, rfl, q3, hb⟩; have HX7 := Lib.hid (HX6.out.later hb); have HB7 := Lib.hid (HB6.out.trans (hb.mono HB6.out.size)); clear hb HX6 tok q1 q2)
        | (go_at_call 19; refine Calls.mono (by with_reducible exact Cr.out _ _ HX7.out) ?_; rintro e w8 ⟨rfl, hx, hb⟩; have HX8 := Lib.hid hx; have HB8 := Lib.hid (HB7.out.trans hb); obtain ⟨q4, q5⟩ := Cv.out w8 HB8.out; clear hx hb HX7 q3)
        | (have tok := HX8; go_at_call 20; refine Calls.mono (by with_reducible exact Rd2.out _ _ HX8.out) ?_; rintro e w9 ⟨A9, c9, rfl, q6, hb⟩; have HB9 := Lib.hid (HB8.out.trans (hb.mono HB8.out.size)); clear hb HX8 tok q4 q5))
      go_ret
      exact ⟨rfl, HB9.out⟩
set_option maxHeartbeats 8000000 in
set_option maxRecDepth 20000 in
theorem law_cuts (A B : Option Addr) (x y : List UInt8) (lx ly c d : Nat) (z : Int) (w : World) (hx : Byt w A x) (hy : Byt w B y) (hlx : x.length = lx) (hly : y.length = ly) (hmx : lx ≤ maxLen) (hmy : ly ≤ maxLen) (h1 : -9223372036854775808 ≤ z) (h2 : z ≤ 9223372036854775807) :
    Calls Try.prog 7 #[.slice A lx c, .slice B ly d, .int .i64 z] w fun e w' => e = .returned (.bool true) ∧ Below w.heap.size w w' := by
  have HLi := Lib.hid (fun V => lives_any V)
  unfold maxLen at hmx hmy
  have hmx' : (lx : Int) ≤ 9223372036854775807 := by omega
  have hmy' : (ly : Int) ≤ 9223372036854775807 := by omega
  have HN := Lib.hid (new_ls (B := w.heap.size) 1048576 1048576 w (by omega) rfl (Nat.le_refl _))
  have HXx := Lib.hid hx
  have HYy := Lib.hid hy
  have HLx := Lib.hid hlx
  have HLy := Lib.hid hly
  clear hx hy hlx hly
  by_cases g1 : 1000 < lx
  · have g1' : (1000 : Int) < (lx : Int) := by omega
    go_enter Try.func7, Try.ntmps7
    go_wp2_with (first
      | (go_at_call 8; refine Calls.mono (by with_reducible exact HN.out) ?_; rintro e w1 ⟨p, rfl, hx, hb⟩; have HX1 := Lib.hid hx; have HB1 := Lib.hid hb; clear hx hb)
      | (go_at_call 10; refine Calls.mono (by with_reducible exact HLi.out _) ?_; rintro e w2 ⟨rfl, hb⟩; have HX1 := Lib.hid (HX1.out.later hb); have HB1 := Lib.hid (HB1.out.trans (hb.mono HB1.out.size)); clear hb))
    go_ret
    exact ⟨rfl, HB1.out⟩
  have g1' : (lx : Int) ≤ 1000 := by omega
  by_cases g2 : 1000 < ly
  · have g2' : (1000 : Int) < (ly : Int) := by omega
    go_enter Try.func7, Try.ntmps7
    go_wp2_with (first
      | (go_at_call 8; refine Calls.mono (by with_reducible exact HN.out) ?_; rintro e w1 ⟨p, rfl, hx, hb⟩; have HX1 := Lib.hid hx; have HB1 := Lib.hid hb; clear hx hb)
      | (go_at_call 10; refine Calls.mono (by with_reducible exact HLi.out _) ?_; rintro e w2 ⟨rfl, hb⟩; have HX1 := Lib.hid (HX1.out.later hb); have HB1 := Lib.hid (HB1.out.trans (hb.mono HB1.out.size)); clear hb))
    go_ret
    exact ⟨rfl, HB1.out⟩
  have g2' : (ly : Int) ≤ 1000 := by omega
  by_cases g3 : z < 0
  · go_enter Try.func7, Try.ntmps7
    go_wp2_with (first
      | (go_at_call 8; refine Calls.mono (by with_reducible exact HN.out) ?_; rintro e w1 ⟨p, rfl, hx, hb⟩; have HX1 := Lib.hid hx; have HB1 := Lib.hid hb; clear hx hb)
      | (go_at_call 10; refine Calls.mono (by with_reducible exact HLi.out _) ?_; rintro e w2 ⟨rfl, hb⟩; have HX1 := Lib.hid (HX1.out.later hb); have HB1 := Lib.hid (HB1.out.trans (hb.mono HB1.out.size)); clear hb))
    go_ret
    exact ⟨rfl, HB1.out⟩
  obtain ⟨n, rfl⟩ : ∃ n : Nat, z = (n : Int) := ⟨z.toNat, by omega⟩
  have g3' : (0 : Int) ≤ (n : Int) := by omega
  have HS1 := Lib.hid (app_none (b := x) ok_a (by have := HLx.out; omega))
  have HS2 := Lib.hid (sync_one (bs := x) (q := 0) (t := false) ok_a)
  have HS3 := Lib.hid (app_one (bs := x) (b := y) (q := x.length) (t := true) ok_a (by have := HLx.out; omega) (by have := HLy.out; omega))
  have HS4 := Lib.hid (cut_one (bs := x ++ y) (q := x.length) (t := true) ok_a g3')
  obtain ⟨T, hT⟩ : ∃ T, T = (x ++ y).take n := ⟨_, rfl⟩
  obtain ⟨q, hq⟩ : ∃ q, q = min x.length (min n (x ++ y).length) := ⟨_, rfl⟩
  have HS5 := Lib.hid (read_one (s := [97]) (bs := T) (q := q) (t := true) ok_a)
  have HS6 := Lib.hid (crash_one [97] T q)
  rw [show ((n : Int)).toNat = n by omega, ← hT, ← hq] at HS4
  obtain ⟨V, hV⟩ : ∃ V, V = T.take q := ⟨_, rfl⟩
  rw [← hV] at HS6
  have HS7 := Lib.hid (read_one (s := [97]) (bs := V) (q := q) (t := true) ok_a)
  have hxl := HLx.out
  have hyl := HLy.out
  have hLl : (x ++ y).length = lx + ly := by rw [List.length_append, hxl, hyl]
  have HcA : Hid ((n < lx + ly ∧ T = (x ++ y).take n ∧ T.length = n) ∨ (lx + ly ≤ n ∧ T = x ++ y ∧ T.length = lx + ly)) := Lib.hid (by
    by_cases h : n < lx + ly
    · exact .inl ⟨h, hT, by rw [hT, List.length_take, hLl]; omega⟩
    · have : T = x ++ y := by rw [hT, List.take_of_length_le (by omega)]
      exact .inr ⟨by omega, this, by rw [this, hLl]⟩)
  have HcB : Hid ((lx < T.length ∧ V = x) ∨ (T.length ≤ lx ∧ V = T)) := Lib.hid (by
    have hTl : T.length = min n (lx + ly) := by rw [hT, List.length_take, hLl]
    rw [hxl, hLl] at hq
    by_cases h : lx < T.length
    · refine .inl ⟨h, ?_⟩
      rw [hV, hT, List.take_take, show min q n = x.length by omega, List.take_left]
    · refine .inr ⟨by omega, ?_⟩
      rw [hV, List.take_of_length_le (by omega)])
  have hTl : T.length ≤ 2000 := by
    have : T.length = min n (lx + ly) := by rw [hT, List.length_take, hLl]
    omega
  refine cuts_walk A B lx ly c d n T.length V.length w _ _ _ _ _ ⟨x.toArray⟩ ⟨y.toArray⟩ ⟨(x ++ y).toArray⟩ ⟨T.toArray⟩ ⟨V.toArray⟩ g1' g2'
    (fun V p h hb => app_ls h ⟨#[97]⟩ sz1 A x lx c 0 hxl.symm (HXx.out.later hb) (by unfold maxLen; omega) (st' := Sto.one [97] x 0 false) (by show (appendR _ [97] x).2 = _; rw [HS1.out]) (by show ((appendR _ [97] x).1 : Int) = 0; rw [HS1.out]; rfl))
    (fun V p h => sync_ls h ⟨#[97]⟩ sz1 0 (st' := Sto.one [97] x x.length true) (by show (syncR _ [97]).2 = _; rw [HS2.out]) (by show ((syncR _ [97]).1 : Int) = 0; rw [HS2.out]; rfl))
    (fun V p h hb => app_ls h ⟨#[97]⟩ sz1 B y ly d 0 hyl.symm (HYy.out.later hb) (by unfold maxLen; omega) (st' := Sto.one [97] (x ++ y) x.length true) (by show (appendR _ [97] y).2 = _; rw [HS3.out]) (by show ((appendR _ [97] y).1 : Int) = 0; rw [HS3.out]; rfl))
    (fun V p h => cut_ls h ⟨#[97]⟩ sz1 (n : Int) h1 h2 0 (st' := Sto.one [97] T q true) (by show (cutR _ [97] _).2 = _; rw [HS4.out]) (by show ((cutR _ [97] _).1 : Int) = 0; rw [HS4.out]; rfl))
    (fun V p h => read_one_ls h T.length _ rfl rfl)
    (fun V' p h => crash_ls h none [] 0 0 (Kepts.nil _ _) rfl (by unfold maxLen; omega) 0 (st' := Sto.one [97] V q true) (by rw [HS6.out]) (by rw [HS6.out]; rfl))
    (fun V' p h => read_one_ls h V.length _ rfl rfl)
    (fun Z h => ?_) (by show x.toArray.size = lx; simp [hxl]) (by show y.toArray.size = ly; simp [hyl]) (str_app x y) (by show (x ++ y).toArray.size = lx + ly; simp [hxl, hyl]) (by show T.toArray.size = _; simp) hTl ?_ ?_
  · have e1 := run_convert_byt (P := Try.prog) Try.underlying31 Try.underlying5 Try.underlying9 c (HXx.out.later h)
    have e2 := run_convert_byt (P := Try.prog) Try.underlying31 Try.underlying5 Try.underlying9 d (HYy.out.later h)
    rw [hxl] at e1
    rw [hyl] at e2
    exact ⟨e1, e2⟩
  · rcases HcA.out with ⟨h3, h4, _⟩ | ⟨h3, h4, _⟩
    · exact .inl ⟨h3, by rw [str_cut, h4]⟩
    · exact .inr ⟨h3, by rw [h4]⟩
  · rcases HcB.out with ⟨h3, h4⟩ | ⟨h3, h4⟩
    · exact .inl ⟨h3, by rw [h4]⟩
    · exact .inr ⟨h3, by rw [h4]⟩
end Go.Proofs.Ytobgiialecgpnaa
