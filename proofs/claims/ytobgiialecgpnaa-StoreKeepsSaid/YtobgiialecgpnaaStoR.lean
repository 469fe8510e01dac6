/- Walks of package store: Cut. -/
import Derived.Test.YtobgiialecgpnaaStoP
set_option linter.unusedSimpArgs false
set_option linter.unusedVariables false
namespace Go.Proofs.Ytobgiialecgpnaa
open Go.ChangeShapes Go.WideShapes Go.ChangeAt Go.RowKit Go.Base Go.Sto Go.Maps

section
variable {w w1 w' : World} {F G : Nat → Prop} {p bm : Nat} {D : DataW Unit} {es : List Ent} {room : Nat} {left : Int}
theorem cutc_any (a n c sure m gb : Nat) (z : Int) (A : Option Addr) (stays : Bool) (w : World) (h : w.heap[a]? = some (.cells #[.slice A n c, .int .i64 (sure : Int), .bool stays] 67 (0, 0))) (hg : w.cell? ⟨gb, 0, none⟩ = some (.int .i64 z)) (hz : 0 ≤ z) (hm : m = min z.toNat n) (hc : n ≤ c) (hcm : c ≤ maxLen) :
    Calls Try.prog 42 #[.pointer (some ⟨a, 0, none⟩), .pointer (some ⟨gb, 0, none⟩)] w (FilePost a (.slice A m c) (min sure m) true w) := by
  have HC := Lib.hid (cut_any a n c sure m z A stays w h hz hm hc hcm)
  clear h
  go_enter Try.func42, Try.ntmps42
  go_wp2_with (go_at_call 43; refine Calls.mono (by with_reducible exact HC.out) ?_; rintro e w1 ⟨rfl, h1, h2, h3⟩; have H1 := Lib.hid (And.intro h1 (And.intro h2 h3)); clear h1 h2 h3)
  go_returns
  exact ⟨rfl, H1.out⟩
set_option maxHeartbeats 1000000 in
theorem change_cut (h : StoX w F p bm D es room left) (s : ByteArray) (hs : s.size ≤ maxLen) (hl : left ≠ 0) {e : Ent} (he : e ∈ es) (hn : e.f.name = s.data.toList) (gb : Nat) (z : Int) (hg : w.cell? ⟨gb, 0, none⟩ = some (.int .i64 z)) (hz : 0 ≤ z) :
    Calls Try.prog 40 #[.pointer (some ⟨p, 0, none⟩), .string s, .bool true, .func (.func 42) #[] #[.pointer (some ⟨gb, 0, none⟩)]] w
      (ChangePost F p bm D (insE ⟨⟨e.f.name, e.f.bytes.take (min z.toNat e.f.bytes.length), min e.f.sure (min z.toNat e.f.bytes.length), true⟩, e.a, e.A, e.c⟩ es) room (wear left) e.a w) := by
  have HF := Lib.hid (find_some h s hs hl he hn)
  have hcap := own_le (h.row e he)
  have HS := Lib.hid (cutc_any e.a e.f.bytes.length e.c e.f.sure (min z.toNat e.f.bytes.length) gb z e.A e.f.stays w (h.file e he) hg hz rfl hcap.1 hcap.2)
  have HX := Lib.hid (fun en w1 (hp : FilePost e.a (.slice e.A (min z.toNat e.f.bytes.length) e.c) (min e.f.sure (min z.toNat e.f.bytes.length)) true w en w1) => h.refile he (Nat.min_le_right ..) (Nat.min_le_right ..) hp)
  clear h hs hn hg hcap
  go_enter Try.func40, Try.ntmps40
  go_wp2_with (first
    | (go_at_call 47; refine Calls.mono (by with_reducible exact HF.out) ?_; rintro e' w1 ⟨rfl, rfl⟩)
    | (go_at_call 42; refine Calls.mono (by with_reducible exact HS.out) ?_; intro e' w2 hp; have HX2 := Lib.hid (HX.out e' w2 hp); obtain ⟨rfl, _, hm2, hz2⟩ := hp; have HM2 := Lib.hid hm2; have HZ2 := Lib.hid hz2; clear hm2 hz2)
    | (go_at_call 27; refine Calls.mono (by with_reducible exact wear_any HX2.out) ?_; rintro e' w3 ⟨rfl, hx, hm, hz⟩; have HX3 := Lib.hid hx; have HM3 := Lib.hid hm; have HZ3 := Lib.hid hz; clear hx hm hz))
  go_ret
  exact ⟨rfl, HX3.out, (HM2.out.weaken (fun k _ h => .inl h)).trans HM3.out (fun k _ h => .inr h), HZ3.out.trans HZ2.out⟩
theorem take_min (l : List UInt8) (n : Nat) : l.take (min n l.length) = l.take n := by
  rcases Nat.le_total n l.length with h | h
  · rw [Nat.min_eq_left h]
  · rw [Nat.min_eq_right h, List.take_length, List.take_of_length_le h]
set_option maxHeartbeats 1000000 in
theorem cutS_any {st : St} (h : Sto w F p st) (s : ByteArray) (hs : s.size ≤ maxLen) (z : Int) (h1 : -9223372036854775808 ≤ z) (h2 : z ≤ 9223372036854775807) :
    Calls Try.prog 16 #[.pointer (some ⟨p, 0, none⟩), .string s, .int .i64 z] w (StepPost F (fun k => F k ∨ w.heap.size ≤ k) p (cutR st s.data.toList z) w) := by
  obtain ⟨bm, D, es, hx, hes⟩ := h
  have hb := (below_alloc w (.cells #[.int .i64 z] 3)).alloc (by simp) (.cells #[.string s] 9)
  have hx1 := hx.later hb
  have hcell : ((w.alloc (.cells #[.int .i64 z] 3)).alloc (.cells #[.string s] 9)).cell? ⟨w.heap.size, 0, none⟩ = some (.int .i64 z) := cell_of_row _ _ 0 _ _ _ (((below_alloc (w.alloc (.cells #[.int .i64 z] 3)) (.cells #[.string s] 9)).block w.heap.size (by simp)).trans (heap_new w _))
  have HM := mayBe_one s hs (w.alloc (.cells #[.int .i64 z] 3))
  rw [show (w.alloc (.cells #[.int .i64 z] 3)).heap.size = w.heap.size + 1 by simp] at HM
  have HM := Lib.hid HM
  have HC : ∀ ok : Bool, (ok = true → 0 ≤ z) → Calls Try.prog 40 #[.pointer (some ⟨p, 0, none⟩), .string s, .bool ok, .func (.func 42) #[] #[.pointer (some ⟨w.heap.size, 0, none⟩)]] ((w.alloc (.cells #[.int .i64 z] 3)).alloc (.cells #[.string s] 9)) (StepPost F (fun k => F k ∨ w.heap.size ≤ k) p (stepF st ok s.data.toList (fun f => ins ⟨f.name, f.bytes.take z.toNat, min f.sure (min z.toNat f.bytes.length), true⟩ st.files)) ((w.alloc (.cells #[.int .i64 z] 3)).alloc (.cells #[.string s] 9))) := fun ok hok => by
    cases ok
    · exact (change_bad hx1 s false _ 1 rfl (by omega)).mono fun e w' ⟨he, hw⟩ => by
        subst hw
        exact ⟨he, ⟨bm, D, es, hx1.wide (fun k h => .inl h), hes⟩, Moved.refl _ _⟩
    · refine change_any hx1 hes (fun k h => .inl h) s hs true _ _ (fun e he hn hl => ?_)
      refine (change_cut hx1 s hs hl he hn w.heap.size z hcell (hok rfl)).mono fun e' w' ⟨h1, h2, h3, _⟩ => ⟨h1, ⟨bm, D, _, h2.wide (fun k h => .inl h), ?_⟩, h3.weaken (fun k _ h => ?_)⟩
      · rw [map_insE, hes]
        show ins ⟨e.f.name, e.f.bytes.take (min z.toNat e.f.bytes.length), _, _⟩ _ = _
        rw [take_min]
      · rcases h with rfl | rfl
        · exact (hx.inF.2.2 e he).1
        · exact hx.inF.1
  have HB := Lib.hid hb
  unfold cutR
  cases hok : okName s.data.toList
  · have ho : okS s = false := hok
    rw [ho] at HM
    have HC1 := Lib.hid (HC false (fun h => by cases h))
    rw [Bool.false_and]
    generalize stepF st false s.data.toList _ = r at *
    clear hx hx1 hb hs HC hcell hok ho
    go_enter Try.func16, Try.ntmps16
    go_wp2_with (first
      | (go_at_call 26; refine Calls.mono (by with_reducible exact HM.out) ?_; rintro e w1 ⟨rfl, rfl⟩)
      | (go_at_call 40; refine Calls.mono (by with_reducible exact HC1.out) ?_; rintro e w2 ⟨rfl, hst, hm⟩; have HS := Lib.hid hst; have HM2 := Lib.hid hm; clear hst hm))
    go_ret
    exact ⟨rfl, HS.out, (Below.movedNew HB.out).trans HM2.out (fun _ _ h => h)⟩
  · have ho : okS s = true := hok
    rw [ho] at HM
    rw [Bool.true_and]
    have HC1 := Lib.hid (HC (decide (0 ≤ z)) (fun h => by simpa using h))
    generalize stepF st (decide (0 ≤ z)) s.data.toList _ = r at *
    clear hx hx1 hb hs HC hok ho
    go_enter Try.func16, Try.ntmps16
    go_wp2_with (first
      | (go_at_call 26; refine Calls.mono (by with_reducible exact HM.out) ?_; rintro e w1 ⟨rfl, rfl⟩)
      | (go_at_call 40; refine Calls.mono (by with_reducible exact HC1.out) ?_; rintro e w2 ⟨rfl, hst, hm⟩; have HS := Lib.hid hst; have HM2 := Lib.hid hm; clear hst hm))
    go_ret
    exact ⟨rfl, HS.out, (Below.movedNew HB.out).trans HM2.out (fun _ _ h => h)⟩
end
theorem cut_ls {B p : Nat} {w : World} {st st' : St} (h : LS B w p st) (s : ByteArray) (hs : s.size ≤ maxLen) (z : Int) (h1 : -9223372036854775808 ≤ z) (h2 : z ≤ 9223372036854775807) (y : Int) (hr : (cutR st s.data.toList z).2 = st') (hz : ((cutR st s.data.toList z).1 : Int) = y) :
    Calls Try.prog 16 #[.pointer (some ⟨p, 0, none⟩), .string s, .int .i64 z] w (OpPost B p st' y w) :=
  (cutS_any h.1 s hs z h1 h2).mono fun e w' hp => h.step hp hr hz
end Go.Proofs.Ytobgiialecgpnaa
