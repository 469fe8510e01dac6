/- Walk of the laws of package pack: what must come of every program. -/
import Derived.Test.YtnphmejmcnihoaaPakG
set_option linter.unusedSimpArgs false
set_option linter.unusedVariables false
namespace Go.Proofs.Ytnphmejmcnihoaa
open Go.ChangeShapes Go.WideShapes Go.ChangeAt Go.RowKit Go.Base Go.Pk

/-- A packer of the call's own, which began in world W. -/
def PkL (W : World) (B : Nat) (s : Option (List UInt8)) (w : World) : Prop :=
  ∃ row, Pak w B s row ∧ Below W.heap.size W w ∧ W.heap.size ≤ B ∧ ∀ k, row = some k → W.heap.size ≤ k
theorem PkL.new (W : World) : PkL W W.heap.size (some []) (W.alloc (.cells #[.slice none 0 0, .bool false] 64)) :=
  ⟨none, pak_new W, below_alloc W _, Nat.le_refl _, fun k h => by cases h⟩
theorem PkL.call {W w : World} {B f : Nat} {args : Array Value} {E : Ending} {s s' : Option (List UInt8)} (h : PkL W B s w)
    (hc : ∀ row, Pak w B s row → Calls Try.prog f args w fun e w' => e = E ∧ PakPost w B row s' w') : Calls Try.prog f args w fun e w' => e = E ∧ PkL W B s' w' := by
  obtain ⟨row, hp, hb, hB, hr⟩ := h
  refine (hc row hp).mono fun e w' ⟨he, row', hp', hm, hr'⟩ => ⟨he, row', hp', hb.trans (hm.below (fun k hk h => ?_) hb.size), hB, fun k hk => ?_⟩
  · rcases h with rfl | h
    · exact hB
    · exact hr k h
  · rcases hr' k hk with h | h
    · exact hr k h
    · exact Nat.le_trans hb.size h
theorem PkL.later {W w w' : World} {B : Nat} {s : Option (List UInt8)} (h : PkL W B s w) (hb : Below w.heap.size w w') : PkL W B s w' := by
  obtain ⟨row, hp, hb0, hB, hr⟩ := h
  exact ⟨row, hp.later hb, hb0.trans (hb.mono hb0.size), hB, hr⟩
theorem PkL.below {W w : World} {B : Nat} {s : Option (List UInt8)} (h : PkL W B s w) : Below W.heap.size W w := by
  obtain ⟨_, _, hb, _⟩ := h; exact hb
/-- A reader of the call's own, which began in world W. -/
def RdL (W : World) (R : Nat) (bs : List UInt8) (bad : Bool) (w : World) : Prop :=
  ∃ row, Rdr w R row bs bad ∧ Below W.heap.size W w ∧ W.heap.size ≤ R ∧ ∀ k, row = some k → W.heap.size ≤ k
theorem RdL.call {W w : World} {R f : Nat} {args : Array Value} {E : Ending} {bs bs' : List UInt8} {bad bad' : Bool} (h : RdL W R bs bad w)
    (hc : ∀ row, Rdr w R row bs bad → Calls Try.prog f args w fun e w' => e = E ∧ RdrPost w R row bs' bad' w') : Calls Try.prog f args w fun e w' => e = E ∧ RdL W R bs' bad' w' := by
  obtain ⟨row, hp, hb, hB, hr⟩ := h
  exact (hc row hp).mono fun e w' ⟨he, hp', hm⟩ => ⟨he, row, hp', hb.trans (hm.below (fun k hk h => by subst h; exact hB) hb.size), hB, hr⟩
theorem RdL.look {W w : World} {R f : Nat} {args : Array Value} {E : Ending} {bs : List UInt8} {bad : Bool} (h : RdL W R bs bad w)
    (hc : ∀ row, Rdr w R row bs bad → Calls Try.prog f args w fun e w' => e = E ∧ w = w') : Calls Try.prog f args w fun e w' => e = E ∧ w = w' := by
  obtain ⟨row, hp, hb, hB, hr⟩ := h
  exact hc row hp
theorem RdL.below {W w : World} {R : Nat} {bs : List UInt8} {bad : Bool} (h : RdL W R bs bad w) : Below W.heap.size W w := by
  obtain ⟨_, _, hb, _⟩ := h; exact hb
def ReadL (w : World) (bs : List UInt8) (e : Ending) (w' : World) : Prop := ∃ R, e = .returned (.pointer (some ⟨R, 0, none⟩)) ∧ RdL w R bs false w'
theorem readL_any (A : Option Addr) (bs : List UInt8) (n c : Nat) (w : World) (hn : n = bs.length) (hy : Byt w A bs) (hm : bs.length ≤ 140737488355328) :
    Calls Try.prog 23 #[.slice A n c] w (ReadL w bs) := by
  subst hn
  exact (read_any A bs c w hy hm).mono fun e w' ⟨R, row, he, hr, hb, hR, hrow⟩ => ⟨R, he, row, hr, hb, hR, hrow⟩
def DoneL (W w : World) (s : Option (List UInt8)) (e : Ending) (w' : World) : Prop :=
  ∃ A n c, e = .returned (.tuple #[.slice A n c, .int .i64 (if s.isNone then 3 else 0)]) ∧ Below W.heap.size W w' ∧ Below w.heap.size w w' ∧ n = (s.getD []).length ∧ Byt w' A (s.getD [])
theorem doneL_any {W w : World} {B : Nat} {s : Option (List UInt8)} (h : PkL W B s w) :
    Calls Try.prog 22 #[.pointer (some ⟨B, 0, none⟩)] w (DoneL W w s) := by
  obtain ⟨row, hp, hb, hB, hr⟩ := h
  exact (done_any B s row w hp).mono fun e w' ⟨A, n, c, he, hb', hn, hy, hk⟩ => ⟨A, n, c, he, hb.trans (hb'.mono hb.size), hb', hn, hy⟩

def liveB : List UInt8 := [172, 2, 1, 2, 97, 98]
theorem live_taken : putText (putB (putB (some []) (numB 300)) (numB (whole (-1)))) (ByteArray.mk #[97, 98]).data.toList = some liveB := by decide +kernel
theorem live_num : stepR 0 rdNum liveB false = (300, [1, 2, 97, 98], false) := by decide +kernel
theorem live_int : stepR 0 rdNum [1, 2, 97, 98] false = (1, [2, 97, 98], false) := by decide +kernel
theorem live_text : stepR [] rdText [2, 97, 98] false = ([97, 98], [], false) := by decide +kernel

set_option maxHeartbeats 2000000 in
theorem lives_any (w : World) :
    Calls Try.prog 10 #[] w fun e w' => e = .returned (.bool true) ∧ Below w.heap.size w w' := by
  have hl6 : liveB.length = 6 := rfl
  go_enter Try.func10, Try.ntmps10
  go_wp2_with (first | (go_at_call 9; refine (new_any _).mono ?_; rintro e w1 ⟨rfl, rfl⟩; have HP := Lib.hid (PkL.new w)) | (go_at_call 11; refine (PkL.call HP.out (fun row h => number_int _ _ row _ 300 _ rfl h (by decide))).mono ?_; rintro e w2 ⟨rfl, hp⟩; have HP2 := Lib.hid hp; clear hp) | (go_at_call 14; refine (PkL.call HP2.out (fun row h => int_any _ _ row (-1) _ h (by decide) (by decide))).mono ?_; rintro e w3 ⟨rfl, hp⟩; have HP3 := Lib.hid hp; clear hp) | (go_at_call 18; refine (PkL.call HP3.out (fun row h => text_any _ _ row _ _ h (by decide))).mono ?_; rintro e w4 ⟨rfl, hp⟩; rw [live_taken] at hp; have HP4 := Lib.hid hp; clear hp) | (go_at_call 22; refine (doneL_any HP4.out).mono ?_; rintro e w5 ⟨A5, n5, c5, rfl, hb5, hc5, rfl, hy5⟩; have HB5 := Lib.hid hb5; have HY5 : Hid (Byt w5 A5 liveB) := Lib.hid hy5; obtain ⟨b5, o5, rfl, hcx⟩ := hy5 0 (by decide); clear hb5 hc5 hcx) | (go_at_call 23; refine (readL_any _ liveB _ _ _ rfl HY5.out (by decide)).mono ?_; rintro e w6 ⟨R, rfl, hr⟩; have HR6 := Lib.hid hr; clear hr) | (go_at_call 24; refine (RdL.call HR6.out (E := .returned (.int .u64 300)) (bs' := [1, 2, 97, 98]) (bad' := false) (fun row h => (by have := rnum_any R row _ _ _ h; rw [live_num] at this; exact this))).mono ?_; rintro e w7 ⟨rfl, hr⟩; have HR7 := Lib.hid hr; clear hr) | (go_at_call 25; refine (RdL.call HR7.out (E := .returned (.int .i64 (-1))) (bs' := [2, 97, 98]) (bad' := false) (fun row h => (by have := rint_any R row _ _ _ h; rw [live_int] at this; exact this))).mono ?_; rintro e w8 ⟨rfl, hr⟩; have HR8 := Lib.hid hr; clear hr) | (go_at_call 27; refine (RdL.call HR8.out (E := .returned (.string ⟨#[97, 98]⟩)) (bs' := []) (bad' := false) (fun row h => (by have := rtext_any R row _ _ _ h; rw [live_text] at this; exact this))).mono ?_; rintro e w9 ⟨rfl, hr⟩; have HR9 := Lib.hid hr; have hcell : w9.cell? ⟨b5, o5, none⟩ = some (.int .u8 172) := (HY5.out.later (RdL.below hr)).at_ (k := 0) (by decide); clear hr) | (go_at_call 28; refine (RdL.look HR9.out (E := .returned (.int .i64 0)) (fun row h => rdone_any R row _ _ _ h)).mono ?_; rintro e w10 ⟨rfl, rfl⟩))
  go_ret
  exact ⟨rfl, HB5.out.trans (HR9.out.below.mono HB5.out.size)⟩
end Go.Proofs.Ytnphmejmcnihoaa
