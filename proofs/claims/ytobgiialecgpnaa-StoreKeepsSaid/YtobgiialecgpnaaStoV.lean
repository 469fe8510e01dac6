/- The law StoreRenames. -/
import Derived.Test.YtobgiialecgpnaaStoU
import Derived.Test.YtobgiialecgpnaaKepts
set_option linter.unusedSimpArgs false
set_option linter.unusedVariables false
namespace Go.Sto
def nNew : List UInt8 := [110, 101, 119]
def nOld : List UInt8 := [111, 108, 100]
theorem ok_new : okName nNew = true := by decide
theorem ok_old : okName nOld = true := by decide
theorem app_two {x y : List UInt8} (hx : x.length ≤ 1000) (hy : y.length ≤ 1000) : appendR (one nNew x 0 false) nOld y = (0, ⟨[⟨nNew, x, 0, false⟩, ⟨nOld, y, 0, false⟩], 1048576, -1⟩) := by
  have hl : look (one nNew x 0 false).files nOld = none := rfl
  unfold appendR
  rw [if_pos ok_old, if_neg (show ¬ (one nNew x 0 false).left = 0 from left_one), hl]
  show (if _ then _ else _) = _
  rw [if_neg (by show ¬ (64 ≤ 1 ∨ 1048576 - used [_] < y.length); rw [used_one]; show ¬ (64 ≤ 1 ∨ 1048576 - x.length < y.length); omega)]
  show (0, St.mk (ins ⟨nOld, y, 0, false⟩ [⟨nNew, x, 0, false⟩]) 1048576 (wear (-1))) = _
  rw [ins_cons, if_neg (by show ¬ nOld = nNew; decide), if_neg (by show ¬ nOld < nNew; decide)]
  rfl
theorem ren_two {x y : List UInt8} : renameR ⟨[⟨nNew, x, 0, false⟩, ⟨nOld, y, 0, false⟩], 1048576, -1⟩ nNew nOld = (0, one nOld x x.length true) := by
  have hl : look [⟨nNew, x, 0, false⟩, ⟨nOld, y, 0, false⟩] nNew = some ⟨nNew, x, 0, false⟩ := rfl
  unfold renameR stepF
  rw [if_pos (by decide), if_neg (by exact left_one)]
  simp only [hl]
  show (0, St.mk (ins ⟨nOld, x, x.length, true⟩ (del nNew [⟨nNew, x, 0, false⟩, ⟨nOld, y, 0, false⟩])) 1048576 (wear (-1))) = _
  rw [show del nNew [⟨nNew, x, 0, false⟩, ⟨nOld, y, 0, false⟩] = [⟨nOld, y, 0, false⟩] from rfl, ins_cons, if_pos rfl]
  rfl
theorem crash_sure (s bs : List UInt8) (ks : List (ByteArray × Int)) : (crashR (one s bs bs.length true) ks).2 = one s bs bs.length true ∧ ((crashR (one s bs bs.length true) ks).1 = 0 ∨ (crashR (one s bs bs.length true) ks).1 = 1) := by
  unfold crashR
  rcases h : outR (one s bs bs.length true).files ks [] with _ | acc
  · exact ⟨rfl, .inr rfl⟩
  · refine ⟨?_, .inl rfl⟩
    have hok := lastOf_ok (f := ⟨s, bs, bs.length, true⟩) (outR_ok h (fun k hk => by cases hk)) (look_one s bs bs.length true) (Nat.le_refl _)
    have hl : leftN acc ⟨s, bs, bs.length, true⟩ = bs.length := by
      have h1 := hok.2
      have h2 : bs.length ≤ leftN acc ⟨s, bs, bs.length, true⟩ := Nat.le_add_right _ _
      exact Nat.le_antisymm h1 h2
    show St.mk ([crashF acc ⟨s, bs, bs.length, true⟩].filter (·.stays)) 1048576 (-1) = _
    rw [List.filter_cons, if_pos (by unfold crashF; rfl)]
    unfold crashF one
    rw [hl]
    show St.mk [⟨s, bs.take bs.length, bs.length, true⟩] _ _ = _
    rw [List.take_length]
theorem read_gone {x : List UInt8} : readR (one nOld x x.length true) nNew = (4, []) := by
  unfold readR one
  rw [if_pos ok_new, if_neg (by exact left_one)]
  rfl
end Go.Sto
namespace Go.Proofs.Ytobgiialecgpnaa
open Go.ChangeShapes Go.WideShapes Go.ChangeAt Go.RowKit Go.Base Go.Sto Go.Maps

theorem szN : (⟨#[110, 101, 119]⟩ : ByteArray).size ≤ maxLen := by unfold maxLen; decide
theorem szO : (⟨#[111, 108, 100]⟩ : ByteArray).size ≤ maxLen := by unfold maxLen; decide
theorem rename_ls {B p : Nat} {w : World} {st st' : St} (h : LS B w p st) (s t : ByteArray) (hs : s.size ≤ maxLen) (ht : t.size ≤ maxLen) (z : Int) (hr : (renameR st s.data.toList t.data.toList).2 = st') (hz : ((renameR st s.data.toList t.data.toList).1 : Int) = z) :
    Calls Try.prog 17 #[.pointer (some ⟨p, 0, none⟩), .string s, .string t] w (OpPost B p st' z w) :=
  (rename_any h.1 s t hs ht).mono fun e w' hp => h.step hp hr hz
set_option maxHeartbeats 8000000 in
set_option maxRecDepth 20000 in
theorem renames_walk (A B K : Option Addr) (lx ly lk c d k : Nat) (zk : Int) (w : World) (stA stB stC : St) (X : ByteArray) (g1' : (lx : Int) ≤ 1000) (g2' : (ly : Int) ≤ 1000) (hzk : zk = 0 ∨ zk = 1)
    (ap1 : ∀ V p, LS w.heap.size V p ⟨[], 1048576, -1⟩ → Below w.heap.size w V → Calls Try.prog 12 #[.pointer (some ⟨p, 0, none⟩), .string ⟨#[110, 101, 119]⟩, .slice A lx c] V (OpPost w.heap.size p stA 0 V))
    (ap2 : ∀ V p, LS w.heap.size V p stA → Below w.heap.size w V → Calls Try.prog 12 #[.pointer (some ⟨p, 0, none⟩), .string ⟨#[111, 108, 100]⟩, .slice B ly d] V (OpPost w.heap.size p stB 0 V))
    (re : ∀ V p, LS w.heap.size V p stB → Calls Try.prog 17 #[.pointer (some ⟨p, 0, none⟩), .string ⟨#[110, 101, 119]⟩, .string ⟨#[111, 108, 100]⟩] V (OpPost w.heap.size p stC 0 V))
    (cr1 : ∀ V p, LS w.heap.size V p stC → Below w.heap.size w V → Calls Try.prog 19 #[.pointer (some ⟨p, 0, none⟩), .slice K lk k] V (OpPost w.heap.size p stC zk V))
    (cr2 : ∀ V p, LS w.heap.size V p stC → Calls Try.prog 19 #[.pointer (some ⟨p, 0, none⟩), .slice none 0 0] V (OpPost w.heap.size p stC 0 V))
    (rd1 : ∀ V p, LS w.heap.size V p stC → Calls Try.prog 20 #[.pointer (some ⟨p, 0, none⟩), .string ⟨#[111, 108, 100]⟩] V (ReadL w.heap.size X.data.toList 0 V))
    (rd2 : ∀ V p, LS w.heap.size V p stC → Calls Try.prog 20 #[.pointer (some ⟨p, 0, none⟩), .string ⟨#[110, 101, 119]⟩] V (ReadL w.heap.size [] 4 V))
    (ro : ∀ V p, LS w.heap.size V p stC → Calls Try.prog 21 #[.pointer (some ⟨p, 0, none⟩)] V fun e w' => e = .returned (.int .i64 (1048576 - (lx : Int))) ∧ Below V.heap.size V w')
    (cv : ∀ V, Below w.heap.size w V → (convert 31 9 (.slice A lx c)).run Try.prog V = .ok (.string X) V) (hX : X.data.toList.length = lx) :
    Calls Try.prog 5 #[.slice A lx c, .slice B ly d, .slice K lk k] w fun e w' => e = .returned (.bool true) ∧ Below w.heap.size w w' := by
  have HLi := Lib.hid (fun V => lives_any V)
  have HN := Lib.hid (new_ls (B := w.heap.size) 1048576 1048576 w (by omega) rfl (Nat.le_refl _))
  have Ap1 := Lib.hid ap1
  have Ap2 := Lib.hid ap2
  have Re := Lib.hid re
  have Cr1 := Lib.hid cr1
  have Cr2 := Lib.hid cr2
  have Rd1 := Lib.hid rd1
  have Rd2 := Lib.hid rd2
  have Ro := Lib.hid ro
  have Cv := Lib.hid cv
  have HXl := Lib.hid hX
  have hsub : IntKind.i64.wrap (1048576 - (lx : Int)) = 1048576 - (lx : Int) := by rw [IntKind.wrap_i64]; omega
  clear ap1 ap2 re cr1 cr2 rd1 rd2 ro cv hX
  rcases hzk with rfl | rfl
  · go_enter Try.func5, Try.ntmps5
    go_wp2_with (first
      | (go_at_call 8; refine Calls.mono (by with_reducible exact HN.out) ?_; rintro e w1 ⟨p, rfl, hx, hb⟩; have HX1 := Lib.hid hx; have HB1 := Lib.hid hb; clear hx hb)
      | (go_at_call 10; refine Calls.mono (by with_reducible exact HLi.out _) ?_; rintro e w2 ⟨rfl, hb⟩; have HX2 := Lib.hid (HX1.out.later hb); have HB2 := Lib.hid (HB1.out.trans (hb.mono HB1.out.size)); clear hb HX1)
      | (have tok := HX2; go_at_call 12; refine Calls.mono (by with_reducible exact Ap1.out _ _ HX2.out HB2.out) ?_; rintro e w3 ⟨rfl, hx, hb⟩; have HX3 := Lib.hid hx; have HB3 := Lib.hid (HB2.out.trans hb); clear hx hb HX2 tok)
      | (go_at_call 12; refine Calls.mono (by with_reducible exact Ap2.out _ _ HX3.out HB3.out) ?_; rintro e w4 ⟨rfl, hx, hb⟩; have HX4 := Lib.hid hx; have HB4 := Lib.hid (HB3.out.trans hb); clear hx hb HX3)
      | (go_at_call 17; refine Calls.mono (by with_reducible exact Re.out _ _ HX4.out) ?_; rintro e w5 ⟨rfl, hx, hb⟩; have HX5 := Lib.hid hx; have HB5 := Lib.hid (HB4.out.trans hb); clear hx hb HX4)
      | (have tok := HX5; go_at_call 19; refine Calls.mono (by with_reducible exact Cr1.out _ _ HX5.out HB5.out) ?_; rintro e w6 ⟨rfl, hx, hb⟩; have HX6 := Lib.hid hx; have HB6 := Lib.hid (HB5.out.trans hb); clear hx hb HX5 tok)
      | (go_at_call 19; refine Calls.mono (by with_reducible exact Cr2.out _ _ HX6.out) ?_; rintro e w6' ⟨rfl, hx, hb⟩; have HB6' := Lib.hid (HB6.out.trans hb); have HX6' := Lib.hid hx; clear hx hb HX6 HB6; have HX6 := HX6'; have HB6 := HB6'; clear HX6' HB6')
      | (have tok := HX6; go_at_call 20; refine Calls.mono (by with_reducible exact Rd1.out _ _ HX6.out) ?_; rintro e w7 ⟨A7, c7, rfl, hy, hb⟩; rw [HXl.out]; have HX7 := Lib.hid (HX6.out.later hb); have HY7 := Lib.hid hy; have HB7 := Lib.hid (HB6.out.trans (hb.mono HB6.out.size)); clear hb hy HX6 tok)
      | (go_at_call 20; refine Calls.mono (by with_reducible exact Rd2.out _ _ HX7.out) ?_; rintro e w8 ⟨A8, c8, rfl, _, hb⟩; have HX8 := Lib.hid (HX7.out.later hb); have HB8 := Lib.hid (HB7.out.trans (hb.mono HB7.out.size)); have q1 := Cv.out w8 HB8.out; have q2 : (convert 31 9 (.slice A7 lx c7)).run Try.prog w8 = .ok (.string X) w8 := (by have := run_convert_byt (P := Try.prog) Try.underlying31 Try.underlying5 Try.underlying9 c7 (HY7.out.later hb); rw [HXl.out] at this; exact this); clear hb HX7)
      | (go_at_call 21; refine Calls.mono (by with_reducible exact Ro.out _ _ HX8.out) ?_; rintro e w9 ⟨rfl, hb⟩; have HB9 := Lib.hid (HB8.out.trans (hb.mono HB8.out.size)); clear hb))
    go_ret
    exact ⟨rfl, HB9.out⟩
  · go_enter Try.func5, Try.ntmps5
    go_wp2_with (first
      | (go_at_call 8; refine Calls.mono (by with_reducible exact HN.out) ?_; rintro e w1 ⟨p, rfl, hx, hb⟩; have HX1 := Lib.hid hx; have HB1 := Lib.hid hb; clear hx hb)
      | (go_at_call 10; refine Calls.mono (by with_reducible exact HLi.out _) ?_; rintro e w2 ⟨rfl, hb⟩; have HX2 := Lib.hid (HX1.out.later hb); have HB2 := Lib.hid (HB1.out.trans (hb.mono HB1.out.size)); clear hb HX1)
      | (have tok := HX2; go_at_call 12; refine Calls.mono (by with_reducible exact Ap1.out _ _ HX2.out HB2.out) ?_; rintro e w3 ⟨rfl, hx, hb⟩; have HX3 := Lib.hid hx; have HB3 := Lib.hid (HB2.out.trans hb); clear hx hb HX2 tok)
      | (go_at_call 12; refine Calls.mono (by with_reducible exact Ap2.out _ _ HX3.out HB3.out) ?_; rintro e w4 ⟨rfl, hx, hb⟩; have HX4 := Lib.hid hx; have HB4 := Lib.hid (HB3.out.trans hb); clear hx hb HX3)
      | (go_at_call 17; refine Calls.mono (by with_reducible exact Re.out _ _ HX4.out) ?_; rintro e w5 ⟨rfl, hx, hb⟩; have HX5 := Lib.hid hx; have HB5 := Lib.hid (HB4.out.trans hb); clear hx hb HX4)
      | (have tok := HX5; go_at_call 19; refine Calls.mono (by with_reducible exact Cr1.out _ _ HX5.out HB5.out) ?_; rintro e w6 ⟨rfl, hx, hb⟩; have HX6 := Lib.hid hx; have HB6 := Lib.hid (HB5.out.trans hb); clear hx hb HX5 tok)
      | (go_at_call 19; refine Calls.mono (by with_reducible exact Cr2.out _ _ HX6.out) ?_; rintro e w6' ⟨rfl, hx, hb⟩; have HB6' := Lib.hid (HB6.out.trans hb); have HX6' := Lib.hid hx; clear hx hb HX6 HB6; have HX6 := HX6'; have HB6 := HB6'; clear HX6' HB6')
      | (have tok := HX6; go_at_call 20; refine Calls.mono (by with_reducible exact Rd1.out _ _ HX6.out) ?_; rintro e w7 ⟨A7, c7, rfl, hy, hb⟩; rw [HXl.out]; have HX7 := Lib.hid (HX6.out.later hb); have HY7 := Lib.hid hy; have HB7 := Lib.hid (HB6.out.trans (hb.mono HB6.out.size)); clear hb hy HX6 tok)
      | (go_at_call 20; refine Calls.mono (by with_reducible exact Rd2.out _ _ HX7.out) ?_; rintro e w8 ⟨A8, c8, rfl, _, hb⟩; have HX8 := Lib.hid (HX7.out.later hb); have HB8 := Lib.hid (HB7.out.trans (hb.mono HB7.out.size)); have q1 := Cv.out w8 HB8.out; have q2 : (convert 31 9 (.slice A7 lx c7)).run Try.prog w8 = .ok (.string X) w8 := (by have := run_convert_byt (P := Try.prog) Try.underlying31 Try.underlying5 Try.underlying9 c7 (HY7.out.later hb); rw [HXl.out] at this; exact this); clear hb HX7)
      | (go_at_call 21; refine Calls.mono (by with_reducible exact Ro.out _ _ HX8.out) ?_; rintro e w9 ⟨rfl, hb⟩; have HB9 := Lib.hid (HB8.out.trans (hb.mono HB8.out.size)); clear hb))
    go_ret
    exact ⟨rfl, HB9.out⟩
set_option maxHeartbeats 4000000 in
theorem law_renames (A B K : Option Addr) (x y : List UInt8) (ks : List (ByteArray × Int)) (lx ly lk c d k : Nat) (w : World) (hx : Byt w A x) (hy : Byt w B y) (hk : Kepts w K ks) (hlx : x.length = lx) (hly : y.length = ly) (hlk : ks.length = lk) (hmx : lx ≤ maxLen) (hmy : ly ≤ maxLen) (hmk : lk ≤ maxLen) :
    Calls Try.prog 5 #[.slice A lx c, .slice B ly d, .slice K lk k] w fun e w' => e = .returned (.bool true) ∧ Below w.heap.size w w' := by
  have HLi := Lib.hid (fun V => lives_any V)
  unfold maxLen at hmx hmy
  have hmx' : (lx : Int) ≤ 9223372036854775807 := by omega
  have hmy' : (ly : Int) ≤ 9223372036854775807 := by omega
  have HN := Lib.hid (new_ls (B := w.heap.size) 1048576 1048576 w (by omega) rfl (Nat.le_refl _))
  by_cases g1 : 1000 < lx
  · have g1' : (1000 : Int) < (lx : Int) := by omega
    clear hx hy hk
    go_enter Try.func5, Try.ntmps5
    go_wp2_with (first
      | (go_at_call 8; refine Calls.mono (by with_reducible exact HN.out) ?_; rintro e w1 ⟨p, rfl, hx, hb⟩; have HX1 := Lib.hid hx; have HB1 := Lib.hid hb; clear hx hb)
      | (go_at_call 10; refine Calls.mono (by with_reducible exact HLi.out _) ?_; rintro e w2 ⟨rfl, hb⟩; have HX1 := Lib.hid (HX1.out.later hb); have HB1 := Lib.hid (HB1.out.trans (hb.mono HB1.out.size)); clear hb))
    go_ret
    exact ⟨rfl, HB1.out⟩
  have g1' : (lx : Int) ≤ 1000 := by omega
  by_cases g2 : 1000 < ly
  · have g2' : (1000 : Int) < (ly : Int) := by omega
    clear hx hy hk
    go_enter Try.func5, Try.ntmps5
    go_wp2_with (first
      | (go_at_call 8; refine Calls.mono (by with_reducible exact HN.out) ?_; rintro e w1 ⟨p, rfl, hx, hb⟩; have HX1 := Lib.hid hx; have HB1 := Lib.hid hb; clear hx hb)
      | (go_at_call 10; refine Calls.mono (by with_reducible exact HLi.out _) ?_; rintro e w2 ⟨rfl, hb⟩; have HX1 := Lib.hid (HX1.out.later hb); have HB1 := Lib.hid (HB1.out.trans (hb.mono HB1.out.size)); clear hb))
    go_ret
    exact ⟨rfl, HB1.out⟩
  have g2' : (ly : Int) ≤ 1000 := by omega
  obtain ⟨s1, s2⟩ := crash_sure nOld x ks
  have e1 := app_none (b := x) ok_new (by omega)
  have e2 := app_two (x := x) (y := y) (by omega) (by omega)
  have e3 := ren_two (x := x) (y := y)
  have e4 := crash_one nOld x x.length
  rw [List.take_length] at e4
  have e5 := read_one (s := nOld) (bs := x) (q := x.length) (t := true) ok_old
  have e6 := read_gone (x := x)
  refine renames_walk A B K lx ly lk c d k ((crashR (Sto.one nOld x x.length true) ks).1 : Int) w (Sto.one nNew x 0 false) ⟨[⟨nNew, x, 0, false⟩, ⟨nOld, y, 0, false⟩], 1048576, -1⟩ (Sto.one nOld x x.length true) ⟨x.toArray⟩ g1' g2' (by omega)
    (fun V p h hb => app_ls h ⟨#[110, 101, 119]⟩ szN A x lx c 0 hlx.symm (hx.later hb) (by unfold maxLen; omega) (by show (appendR _ nNew x).2 = _; rw [e1]) (by show ((appendR _ nNew x).1 : Int) = 0; rw [e1]; rfl))
    (fun V p h hb => app_ls h ⟨#[111, 108, 100]⟩ szO B y ly d 0 hly.symm (hy.later hb) (by unfold maxLen; omega) (by show (appendR _ nOld y).2 = _; rw [e2]) (by show ((appendR _ nOld y).1 : Int) = 0; rw [e2]; rfl))
    (fun V p h => rename_ls h ⟨#[110, 101, 119]⟩ ⟨#[111, 108, 100]⟩ szN szO 0 (by show (renameR _ nNew nOld).2 = _; rw [e3]) (by show ((renameR _ nNew nOld).1 : Int) = 0; rw [e3]; rfl))
    (fun V p h hb => crash_ls h K ks lk k (hk.later hb) hlk hmk _ s1 rfl)
    (fun V p h => crash_ls h none [] 0 0 (Kepts.nil _ _) rfl (by unfold maxLen; omega) 0 (by rw [e4]) (by rw [e4]; rfl))
    (fun V p h => read_ls h ⟨#[111, 108, 100]⟩ szO _ 0 (by show (readR _ nOld).2 = _; rw [e5]) (by show ((readR _ nOld).1 : Int) = 0; rw [e5]; rfl))
    (fun V p h => read_ls h ⟨#[110, 101, 119]⟩ szN [] 4 (by show (readR _ nNew).2 = _; rw [e6]) (by show ((readR _ nNew).1 : Int) = 4; rw [e6]; rfl))
    (fun V p h => room_ls h _ (by show ((1048576 - used [_] : Nat) : Int) = _; rw [used_one]; show ((1048576 - x.length : Nat) : Int) = _; omega))
    (fun V hb => by
      have := run_convert_byt (P := Try.prog) Try.underlying31 Try.underlying5 Try.underlying9 c (hx.later hb)
      rw [hlx] at this; exact this) (by simp [hlx])
end Go.Proofs.Ytobgiialecgpnaa
