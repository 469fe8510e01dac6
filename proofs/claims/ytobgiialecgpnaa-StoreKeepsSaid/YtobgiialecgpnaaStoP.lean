/- Package store: its calls upon a store of the call's own; the law's own lives. -/
import Derived.Test.YtobgiialecgpnaaStoO
import Derived.Lib.SlBytesConst
import Derived.Lib.BufferRead
set_option linter.unusedSimpArgs false
set_option linter.unusedVariables false
namespace Go.Proofs.Ytobgiialecgpnaa
open Go.ChangeShapes Go.WideShapes Go.ChangeAt Go.RowKit Go.Base Go.Sto Go.Maps

theorem run_convert_byt {P : Program} {src dst e : TypeId} (hs : P.underlying src = some (.slice e)) (he : P.underlying e = some (.int .u8)) (hd : P.underlying dst = some .string) {w : World} {A : Option Addr} {ys : List UInt8} (c : Nat) (h : Byt w A ys) :
    (convert src dst (.slice A ys.length c)).run P w = .ok (.string ⟨ys.toArray⟩) w := by
  rcases A with _ | ad
  · have : ys = [] := by
      cases ys with
      | nil => rfl
      | cons y ys => obtain ⟨_, _, h, _⟩ := h 0 (by simp); cases h
    subst this
    exact Lib.run_convert_nil_bytes w src dst e c hs he hd
  · refine run_convert_bytes_back w src dst e ad c ys hs he hd (fun j hj => ?_)
    obtain ⟨b, o, e, hc⟩ := h j hj
    injection e with e; subst e
    rw [add_off]; exact hc
/-- A store whose blocks are none of the first B. -/
def LS (B : Nat) (w : World) (p : Nat) (st : St) : Prop := Sto w (fun k => B ≤ k) p st ∧ B ≤ w.heap.size
section
variable {B p : Nat} {w w' : World} {st st' : St}
theorem Sto.later {F : Nat → Prop} (h : Sto w F p st) (hb : Below w.heap.size w w') : Sto w' F p st := by
  obtain ⟨bm, D, es, hx, hes⟩ := h
  exact ⟨bm, D, es, hx.later hb, hes⟩
theorem LS.later (h : LS B w p st) (hb : Below w.heap.size w w') : LS B w' p st := ⟨Sto.later h.1 hb, Nat.le_trans h.2 hb.size⟩
theorem LS.step {r : Nat × St} {e : Ending} {z : Int} (h : LS B w p st) (hs : StepPost (fun k => B ≤ k) (fun k => B ≤ k ∨ w.heap.size ≤ k) p r w e w') (hr : r.2 = st') (hz : (r.1 : Int) = z) :
    e = .returned (.int .i64 z) ∧ LS B w' p st' ∧ Below B w w' := by
  obtain ⟨h1, ⟨bm, D, es, hx, hes⟩, hm⟩ := hs
  subst hr; subst hz
  have hb := h.2
  exact ⟨h1, ⟨⟨bm, D, es, hx.wide (fun k hk => hk.elim id (fun h2 => Nat.le_trans hb h2)), hes⟩, Nat.le_trans hb hm.size⟩, hm.below (fun k _ h => h) hb⟩
def OpPost (B p : Nat) (st : St) (z : Int) (w : World) (e : Ending) (w' : World) : Prop := e = .returned (.int .i64 z) ∧ LS B w' p st ∧ Below B w w'
theorem app_ls (h : LS B w p st) (s : ByteArray) (hs : s.size ≤ maxLen) (A : Option Addr) (b : List UInt8) (m c : Nat) (z : Int) (hm : m = b.length) (hb : Byt w A b) (hl : m ≤ maxLen) (hr : (appendR st s.data.toList b).2 = st') (hz : ((appendR st s.data.toList b).1 : Int) = z) :
    Calls Try.prog 12 #[.pointer (some ⟨p, 0, none⟩), .string s, .slice A m c] w (OpPost B p st' z w) := by
  subst hm
  exact (append_any h.1 s hs A b c hb hl).mono fun e w' hp => h.step hp hr hz
theorem sync_ls (h : LS B w p st) (s : ByteArray) (hs : s.size ≤ maxLen) (z : Int) (hr : (syncR st s.data.toList).2 = st') (hz : ((syncR st s.data.toList).1 : Int) = z) :
    Calls Try.prog 15 #[.pointer (some ⟨p, 0, none⟩), .string s] w (OpPost B p st' z w) :=
  (sync_any h.1 s hs).mono fun e w' hp => h.step hp hr hz
theorem crash_ls (h : LS B w p st) (A : Option Addr) (ks : List (ByteArray × Int)) (n c : Nat) (hk : Kepts w A ks) (hn : ks.length = n) (hm : n ≤ maxLen) (z : Int) (hr : (crashR st ks).2 = st') (hz : ((crashR st ks).1 : Int) = z) :
    Calls Try.prog 19 #[.pointer (some ⟨p, 0, none⟩), .slice A n c] w (OpPost B p st' z w) :=
  (crash_any h.1 A ks n c hk hn hm).mono fun e w' hp => h.step hp hr hz
def ReadL (B : Nat) (b : List UInt8) (z : Int) (w : World) (e : Ending) (w' : World) : Prop := ∃ A c, e = .returned (.tuple #[.slice A b.length c, .int .i64 z]) ∧ Byt w' A b ∧ Below w.heap.size w w'
theorem read_ls (h : LS B w p st) (s : ByteArray) (hs : s.size ≤ maxLen) (b : List UInt8) (z : Int) (hr : (readR st s.data.toList).2 = b) (hz : ((readR st s.data.toList).1 : Int) = z) :
    Calls Try.prog 20 #[.pointer (some ⟨p, 0, none⟩), .string s] w (ReadL B b z w) :=
  (read_any h.1 s hs).mono fun e w' ⟨A, c, he, hy, hb⟩ => by
    subst hr; subst hz; exact ⟨A, c, he, hy, hb⟩
theorem room_ls (h : LS B w p st) (z : Int) (hz : ((st.room - used st.files : Nat) : Int) = z) :
    Calls Try.prog 21 #[.pointer (some ⟨p, 0, none⟩)] w fun e w' => e = .returned (.int .i64 z) ∧ Below w.heap.size w w' := by
  obtain ⟨⟨bm, D, es, hx, hes⟩, _⟩ := h
  have := room_any hx
  rw [hes, hz] at this
  exact this
theorem new_ls (room : Nat) (z : Int) (w : World) (hr : room ≤ 67108864) (hz : (room : Int) = z) (hB : B ≤ w.heap.size) : Calls Try.prog 8 #[.int .i64 z] w fun e w' => ∃ p, e = .returned (.tuple #[.pointer (some ⟨p, 0, none⟩), .int .i64 0]) ∧ LS B w' p ⟨[], room, -1⟩ ∧ Below w.heap.size w w' := by
  subst hz
  refine (new_any room w hr).mono fun e w' ⟨p, he, ⟨bm, D, es, hx, hes⟩, hb⟩ => ⟨p, he, ⟨⟨bm, D, es, hx.wide (fun k h => Nat.le_trans hB h), hes⟩, Nat.le_trans hB hb.size⟩, hb⟩
end
theorem byt_row {w : World} {bs : List UInt8} {cs : Array Value} (h : cs.toList = bs.map u8v) : Byt (w.alloc (.cells cs 5)) (some ⟨w.heap.size, 0, none⟩) bs := fun i hi => by
  refine ⟨w.heap.size, 0, rfl, ?_⟩
  rw [Nat.zero_add, cell_of_row _ _ i _ _ _ (heap_new w (.cells cs 5)), ← Array.getElem?_toList, h, List.getElem?_map, List.getElem?_eq_getElem hi]
  rfl
theorem kept_one {w : World} (s : ByteArray) (z : Int) (hs : s.size ≤ maxLen) (h1 : -9223372036854775808 ≤ z) (h2 : z ≤ 9223372036854775807) : Kepts (w.alloc (.cells #[.string s, .int .i64 z] 63)) (some ⟨w.heap.size, 0, none⟩) [(s, z)] := fun i hi => by
  have : i = 0 := by simp at hi; omega
  subst this
  exact ⟨w.heap.size, 0, rfl, cell_of_row _ _ 0 _ _ _ (heap_new _ _), cell_of_row _ _ 1 _ _ _ (heap_new _ _), hs, h1, h2⟩
def stA : St := ⟨[⟨[97], [120, 121, 122], 0, false⟩], 100, -1⟩
def stB : St := ⟨[⟨[97], [120, 121, 122], 3, true⟩], 100, -1⟩
def stC : St := ⟨[⟨[97], [120, 121, 122, 117, 118], 3, true⟩], 100, -1⟩
def stD : St := ⟨[⟨[97], [120, 121, 122, 117], 4, true⟩], 100, -1⟩
theorem sz1 : (⟨#[97]⟩ : ByteArray).size ≤ maxLen := by unfold maxLen; decide
theorem sz2 : (⟨#[65]⟩ : ByteArray).size ≤ maxLen := by unfold maxLen; decide
set_option maxHeartbeats 4000000 in
set_option maxRecDepth 20000 in
theorem lives_any (w : World) : Calls Try.prog 10 #[] w fun e w' => e = .returned (.bool true) ∧ Below w.heap.size w w' := by
  have HN := Lib.hid (new_ls (B := w.heap.size) 100 100 w (by decide) rfl (Nat.le_refl _))
  go_enter Try.func10, Try.ntmps10
  go_wp2_with (first
    | (go_at_call 8; refine Calls.mono (by with_reducible exact HN.out) ?_; rintro e w1 ⟨p, rfl, hx, hb⟩; have HX1 := Lib.hid (hx.later (below_alloc w1 (.cells #[.int .u8 120, .int .u8 121, .int .u8 122] 5 (3, 4)))); have HB1 := Lib.hid (hb.alloc hb.size (.cells #[.int .u8 120, .int .u8 121, .int .u8 122] 5 (3, 4))); have hc1 := Lib.run_convert_bytes_const (P := Try.prog) w1 31 5 #[.int .u8 120, .int .u8 121, .int .u8 122] 3 3 Try.underlying31 Try.underlying5; clear hx hb HN)
    | (have tok1 := HX1; go_at_call 12; refine Calls.mono (app_ls HX1.out ⟨#[97]⟩ sz1 (some ⟨w1.heap.size, 0, none⟩) [120, 121, 122] 3 3 0 rfl (byt_new _ _ _ _ _ rfl) (by unfold maxLen; decide) (st' := stA) (by kernel_rfl) (by kernel_rfl)) ?_; rintro e w2 ⟨rfl, hx, hb⟩; have HX2 := Lib.hid hx; have HB2 := Lib.hid (HB1.out.trans hb); clear hx hb HX1 tok1)
    | (go_at_call 15; refine Calls.mono (sync_ls HX2.out ⟨#[97]⟩ sz1 0 (st' := stB) (by kernel_rfl) (by kernel_rfl)) ?_; rintro e w3 ⟨rfl, hx, hb⟩; have HX3 := Lib.hid (hx.later (below_alloc w3 (.cells #[.int .u8 117, .int .u8 118] 5 (2, 3)))); have HB3 := Lib.hid ((HB2.out.trans hb).alloc (HB2.out.trans hb).size (.cells #[.int .u8 117, .int .u8 118] 5 (2, 3))); have hc2 := Lib.run_convert_bytes_const (P := Try.prog) w3 31 5 #[.int .u8 117, .int .u8 118] 2 2 Try.underlying31 Try.underlying5; clear hx hb HX2)
    | (have tok3 := HX3; go_at_call 12; refine Calls.mono (app_ls HX3.out ⟨#[97]⟩ sz1 (some ⟨w3.heap.size, 0, none⟩) [117, 118] 2 2 0 rfl (byt_new _ _ _ _ _ rfl) (by unfold maxLen; decide) (st' := stC) (by kernel_rfl) (by kernel_rfl)) ?_; rintro e w4 ⟨rfl, hx, hb⟩; have HX4 := Lib.hid (hx.later (below_alloc w4 (.cells #[.string ⟨#[97]⟩, .int .i64 1] 63))); have HB4 := Lib.hid ((HB3.out.trans hb).alloc (HB3.out.trans hb).size (.cells #[.string ⟨#[97]⟩, .int .i64 1] 63)); clear hx hb HX3 tok3)
    | (go_at_call 19; refine Calls.mono (crash_ls HX4.out (some ⟨w4.heap.size, 0, none⟩) [(⟨#[97]⟩, 1)] 1 1 (kept_one _ _ sz1 (by decide) (by decide)) rfl (by unfold maxLen; decide) 0 (st' := stD) (by kernel_rfl) (by kernel_rfl)) ?_; rintro e w5 ⟨rfl, hx, hb⟩; have HX5 := Lib.hid hx; have HB5 := Lib.hid (HB4.out.trans hb); clear hx hb HX4)
    | (have tok5 := HX5; go_at_call 20; refine Calls.mono (read_ls HX5.out ⟨#[97]⟩ sz1 [120, 121, 122, 117] 0 (by kernel_rfl) (by kernel_rfl)) ?_; rintro e w6 ⟨A6, c6, rfl, hy, hb⟩; have HX6 := Lib.hid (HX5.out.later hb); have HY6 := Lib.hid hy; have HB6 := Lib.hid (HB5.out.trans (hb.mono HB5.out.size)); clear hb hy HX5 tok5)
    | (go_at_call 20; refine Calls.mono (read_ls HX6.out ⟨#[65]⟩ sz2 [] 1 (by kernel_rfl) (by kernel_rfl)) ?_; rintro e w7 ⟨A7, c7, rfl, hy, hb⟩; have q1 : (convert 31 9 (.slice A6 4 c6)).run Try.prog w7 = .ok (.string ⟨#[120, 121, 122, 117]⟩) w7 := run_convert_byt (P := Try.prog) Try.underlying31 Try.underlying5 Try.underlying9 c6 (HY6.out.later hb); have HX7 := Lib.hid (HX6.out.later hb); have HB7 := Lib.hid (HB6.out.trans (hb.mono HB6.out.size)); clear hb hy)
    | (go_at_call 21; refine Calls.mono (room_ls HX7.out 96 (by kernel_rfl)) ?_; rintro e w8 ⟨rfl, hb⟩; have HB8 := Lib.hid (HB7.out.trans (hb.mono HB7.out.size)); clear hb))
  go_ret
  exact ⟨rfl, HB8.out⟩
end Go.Proofs.Ytobgiialecgpnaa
