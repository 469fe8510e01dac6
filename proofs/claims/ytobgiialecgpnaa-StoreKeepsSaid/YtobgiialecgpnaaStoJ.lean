/- Walks of package store: New, Read, Room. -/
import Derived.Test.YtobgiialecgpnaaStoI
import Derived.Test.YtobgiialecgpnaaClone
import Derived.Maps.RangeWalk
set_option linter.unusedSimpArgs false
set_option linter.unusedVariables false
namespace Go.Sto
/-- What is read: an error's number, and bytes. -/
def readR (st : St) (s : List UInt8) : Nat × List UInt8 :=
  if okName s = true then
    if st.left = 0 then (70, []) else
      match look st.files s with
      | none => (4, [])
      | some f => (0, f.bytes)
  else (1, [])
end Go.Sto
namespace Go.Proofs.Ytobgiialecgpnaa
open Go.ChangeShapes Go.WideShapes Go.ChangeAt Go.RowKit Go.Base Go.Sto Go.Maps

theorem new_bad (z : Int) (w : World) (hz : z < 0 ∨ 67108864 < z) : Calls Try.prog 8 #[.int .i64 z] w fun e w' => e = .returned (.tuple #[.pointer none, .int .i64 1]) ∧ w = w' := by
  rcases hz with hz | hz
  · go_enter Try.func8, Try.ntmps8
    go_wp2
    go_ret2
    exact ⟨rfl, rfl⟩
  · have h0 : ¬ z < 0 := by omega
    go_enter Try.func8, Try.ntmps8
    go_wp2
    go_ret2
    exact ⟨rfl, rfl⟩
def NewPost (room : Nat) (w : World) (e : Ending) (w' : World) : Prop :=
  ∃ p, e = .returned (.tuple #[.pointer (some ⟨p, 0, none⟩), .int .i64 0]) ∧ Sto w' (fun k => w.heap.size ≤ k) p ⟨[], room, -1⟩ ∧ Below w.heap.size w w'
theorem new_any (room : Nat) (w : World) (hr : room ≤ 67108864) : Calls Try.prog 8 #[.int .i64 (room : Int)] w (NewPost room w) := by
  have hmm := @run_makeMap Try.prog
  have h0 : (0 : Int) ≤ (room : Int) := by omega
  have h1 : (room : Int) ≤ 67108864 := by omega
  go_enter Try.func8, Try.ntmps8
  go_wp2
  go_ret2
  have hb : Below w.heap.size w (w.alloc (.map #[] 0)) := below_alloc _ _
  refine ⟨w.heap.size + 1, rfl, ⟨w.heap.size, .map [], [], ?_, rfl⟩, hb.alloc (by simp) _⟩
  have hp := heap_new (w.alloc (.map #[] 0)) (.cells #[.map (some w.heap.size), .int .i64 (room : Int), .int .i64 (-1)] 58)
  rw [show (w.alloc (.map #[] 0)).heap.size = w.heap.size + 1 by simp] at hp
  exact ⟨hp, (World.ownsMap_made w _ _ _).alloc _, (fun s => ⟨(fun h => by cases h), (fun ⟨e, he, _⟩ => by cases he)⟩), (fun e he => by cases he), rfl, (fun e he => by cases he), (fun e he => by cases he), (fun d hd => by cases hd),
    ⟨Nat.le_succ _, Nat.le_refl _, (fun e he => by cases he)⟩, Nat.zero_le _, List.Pairwise.nil, ⟨Nat.zero_le _, hr⟩, (fun e he => by cases he), (fun e he => by cases he), ⟨by show (-9223372036854775808 : Int) ≤ -1; decide, by show (-1 : Int) ≤ 9223372036854775807; decide⟩⟩
/-- Reading: what is refused. -/
def ReadPost (r : Nat × List UInt8) (w : World) (e : Ending) (w' : World) : Prop :=
  ∃ A c, e = .returned (.tuple #[.slice A r.2.length c, .int .i64 (r.1 : Int)]) ∧ Byt w' A r.2 ∧ Below w.heap.size w w'
section
variable {w w' : World} {F G : Nat → Prop} {p bm : Nat} {D : DataW Unit} {es : List Ent} {room : Nat} {left : Int}
theorem read_any {st : St} (h : Sto w F p st) (s : ByteArray) (hs : s.size ≤ maxLen) :
    Calls Try.prog 20 #[.pointer (some ⟨p, 0, none⟩), .string s] w (ReadPost (readR st s.data.toList) w) := by
  obtain ⟨bm, D, es, hx, hes⟩ := h
  have hb := below_alloc w (.cells #[.string s] 9)
  have hx1 := hx.later hb
  have HM := Lib.hid (mayBe_one s hs w)
  have HB := Lib.hid hb
  have bad : ∀ n : Nat, n ≠ 0 → (Calls Try.prog 47 #[.pointer (some ⟨p, 0, none⟩), .string s, .bool (okS s)] (w.alloc (.cells #[.string s] 9)) fun e w' => e = .returned (.tuple #[.pointer none, .int .i64 (n : Int)]) ∧ w.alloc (.cells #[.string s] 9) = w') →
      Calls Try.prog 20 #[.pointer (some ⟨p, 0, none⟩), .string s] w (ReadPost (n, []) w) := fun n hn hf => by
    have HF := Lib.hid hf
    have hz : ¬ (n : Int) = 0 := by omega
    clear hf hx hx1 hb hs
    go_enter Try.func20, Try.ntmps20
    go_wp2_with (first
      | (go_at_call 26; refine Calls.mono (by with_reducible exact HM.out) ?_; rintro e w1 ⟨rfl, rfl⟩)
      | (go_at_call 47; refine Calls.mono (by with_reducible exact HF.out) ?_; rintro e w2 ⟨rfl, rfl⟩))
    go_ret2
    exact ⟨none, 0, rfl, Byt.nil _ _, HB.out⟩
  unfold readR
  by_cases ho : okName s.data.toList = true
  · rw [if_pos ho]
    have ho' : okS s = true := ho
    rw [ho'] at bad HM
    by_cases hl : st.left = 0
    · rw [if_pos hl]
      exact bad 70 (by omega) (find_bad hx1 s true 70 (by rw [if_pos rfl, if_pos hl]) (by omega))
    · rw [if_neg hl, ← hes]
      rcases look_cases hx.rising s.data.toList with ⟨h1, h2⟩ | ⟨e, he, hn, h1⟩
      · rw [h1]
        exact bad 4 (by omega) (find_none hx1 s hs hl h2)
      · rw [h1]
        have HF := Lib.hid (find_some hx1 s hs hl he hn)
        obtain ⟨hc, _⟩ := cells_of_heap (hx1.file e he)
        have c0 : (w.alloc (.cells #[.string s] 9)).cell? ⟨e.a, 0, none⟩ = some (.slice e.A e.f.bytes.length e.c) := hc 0
        have hlen : e.f.bytes.length ≤ 67108864 := by
          have := used_le (List.mem_map.2 ⟨e, he, rfl⟩ : e.f ∈ es.map (·.f))
          have := hx.fits
          omega
        have HCl := Lib.hid (clone_any e.A e.f.bytes e.c (w.alloc (.cells #[.string s] 9)) (own_byt_any (hx1.row e he)) (by omega))
        clear bad hx hx1 hb hs hc h1 hn
        go_enter Try.func20, Try.ntmps20
        go_wp2_with (first
          | (go_at_call 26; refine Calls.mono (by with_reducible exact HM.out) ?_; rintro e w1 ⟨rfl, rfl⟩)
          | (go_at_call 47; refine Calls.mono (by with_reducible exact HF.out) ?_; rintro e w2 ⟨rfl, rfl⟩)
          | (go_at_call 24; refine Calls.mono (by with_reducible exact HCl.out) ?_; rintro e' w3 ⟨A3, c3, rfl, hy, hb, _, _, _⟩; have HY := Lib.hid hy; have HB3 := Lib.hid (HB.out.trans (hb.mono HB.out.size)); clear hy hb))
        go_ret2
        exact ⟨A3, c3, rfl, HY.out, HB3.out⟩
  · have ho' : okS s = false := by unfold okS; simpa using ho
    rw [if_neg ho]
    rw [ho'] at bad
    exact bad 1 (by omega) (find_bad hx1 s false 1 rfl (by omega))
/-- How many bytes have been seen, where 'left' are still to come. -/
def seenE (left : Lit → Bool) (es : List Ent) : Nat := (es.map fun e => cond (left (.string e.f.name)) 0 e.f.bytes.length).sum
theorem seenE_cons (left : Lit → Bool) (e : Ent) (es : List Ent) : seenE left (e :: es) = cond (left (.string e.f.name)) 0 e.f.bytes.length + seenE left es := by unfold seenE; simp
theorem used_cons (f : Fil) (l : List Fil) : used (f :: l) = f.bytes.length + used l := by unfold used; simp
theorem seenE_le (left : Lit → Bool) : ∀ es : List Ent, seenE left es ≤ used (es.map (·.f))
  | [] => Nat.le_refl _
  | e :: es => by
    have := seenE_le left es
    rw [seenE_cons, List.map_cons, used_cons]
    cases left (.string e.f.name) <;> simp only [cond_true, cond_false] <;> omega
theorem seenE_all {left : Lit → Bool} (h : ∀ k, left k = false) : ∀ es : List Ent, seenE left es = used (es.map (·.f))
  | [] => rfl
  | e :: es => by rw [seenE_cons, List.map_cons, used_cons, seenE_all h es, h, cond_false]
theorem seenE_none {left : Lit → Bool} : ∀ es : List Ent, (∀ e ∈ es, left (.string e.f.name) = true) → seenE left es = 0
  | [], _ => rfl
  | e :: es, h => by rw [seenE_cons, seenE_none es (fun d hd => h d (List.mem_cons_of_mem _ hd)), h e (List.mem_cons_self ..)]; rfl
theorem same_str (a b : List UInt8) : (Lit.string a).sameKey (.string b) = decide (a = b) := by
  by_cases h : a = b
  · subst h; rw [WideAt.sameKey_self (by trivial)]; simp
  · rw [Maps.sameKey_ne (by intro e; injection e with e; exact h e)]; simp [h]
theorem seenE_same {left left' : Lit → Bool} : ∀ es : List Ent, (∀ e ∈ es, left' (.string e.f.name) = left (.string e.f.name)) → seenE left' es = seenE left es
  | [], _ => rfl
  | e :: es, h => by rw [seenE_cons, seenE_cons, seenE_same es (fun d hd => h d (List.mem_cons_of_mem _ hd)), h e (List.mem_cons_self ..)]
theorem seenE_step {left left' : Lit → Bool} {e : Ent} (hl : left (.string e.f.name) = true) (hl' : ∀ s, left' (.string s) = (left (.string s) && !decide (s = e.f.name))) : ∀ {es : List Ent}, es.Pairwise (fun d e => d.f.name ≠ e.f.name) → e ∈ es →
    seenE left' es = seenE left es + e.f.bytes.length
  | [], _, h => by cases h
  | x :: es, h, he => by
    obtain ⟨h1, h2⟩ := List.pairwise_cons.1 h
    rw [seenE_cons, seenE_cons]
    rcases List.mem_cons.1 he with rfl | he
    · rw [seenE_same (left := left) es (fun d hd => by rw [hl', decide_eq_false (fun h3 => h1 d hd h3.symm)]; simp), hl', hl]
      simp
      omega
    · rw [seenE_step hl hl' h2 he, hl', decide_eq_false (h1 e he)]
      simp
      omega
set_option maxHeartbeats 2000000 in
theorem room_any (h : StoX w F p bm D es room left) : Calls Try.prog 21 #[.pointer (some ⟨p, 0, none⟩)] w fun e w' => e = .returned (.int .i64 ((room - used (es.map (·.f)) : Nat) : Int)) ∧ Below w.heap.size w w' := by
  have HC := Lib.hid (closed_any h)
  have H := Lib.hid h
  have HF := Lib.hid h.fits
  obtain ⟨c0, c1, c2⟩ := h.cells
  have HN : Hid (es.Pairwise (fun d e => d.f.name ≠ e.f.name)) := Lib.hid (by
    have hr := h.rising
    unfold Rising at hr
    rw [List.pairwise_map] at hr
    exact hr.imp (by intro a b hlt e; rw [e] at hlt; exact lt_irr _ hlt))
  have hr26 : (room : Int) ≤ 67108864 := by have := h.fits.2; omega
  clear h
  go_enter Try.func21, Try.ntmps21
  go_wp2_with (first
    | (go_at_call 22; refine Calls.mono (by with_reducible exact HC.out) ?_; rintro e w1 ⟨rfl, rfl⟩)
    | (at_range; refine wpList_range_own _ rfl _ 56 rfl 9 68 law_str Try.underlying56 ptrE bm (Maps.size D) D rfl H.out.map ?_; intro w0 hrg0 hg0 hs0; have HR0 := Lib.hid hrg0; have HG0 := Lib.hid hg0; clear hrg0 hg0 hs0; go_frame))
  go_loopw [3] (fun v wr => ∃ (lf : Lit → Bool) (cnt : Nat), Hid (wr.ranges Try.prog 9 ptrE bm w.heap.size (Maps.size D) D lf cnt) ∧ v = .int .i64 ((room - seenE lf es : Nat) : Int) ∧ Hid (Below w.heap.size w wr)) (fun _ wr => wr.rangeLeft bm w.heap.size)
  case atStart =>
    refine ⟨_, _, HR0, ?_, Lib.hid ((Below.refl _ _).grown HG0.out (Nat.le_refl _) (fun k e => by cases e))⟩
    rw [seenE_none es (fun e he => (H.out.has _).2 ⟨e, he, rfl⟩)]; rfl
  case round =>
    obtain ⟨lf, cnt, HR, rfl, HB⟩ := hrel
    have hle := seenE_le lf es
    have hfit := HF.out
    have hr0 : ((room - seenE lf es : Nat) : Int) ≤ 67108864 := by omega
    go_wp2_with (at_next; refine wpList_next_ranges _ rfl _ rfl 9 law_str ptrE encStr Value.pointer (fun key kl hk => by obtain ⟨x, hx, _⟩ := Maps.keyOf_str Try.underlying9 hk; exact ⟨x, hx⟩) (fun v y hv => ptrE_any hv) bm w.heap.size (Maps.size D) D lf cnt rfl HR.out ?_ ?_)
    · intro _ hl0
      have HE := Lib.hid (seenE_all hl0 es)
      go_wp2
      go_ret
      exact ⟨by rw [← HE.out]; rfl, HB.out⟩
    · intro x q kl yd yp w2 cnt2 hkey hlk hv hat hrg2 hlt hg2 hs2 hen
      obtain ⟨x', ex, rfl, _⟩ := Maps.keyOf_str Try.underlying9 hkey
      obtain rfl : x = x' := encStr_inj ex
      have hhas : Maps.has D (.string x) = true := Maps.has_true_of_atKey hat
      obtain ⟨e, he, rfl⟩ := (H.out.has x).1 hhas
      have ha := H.out.at_ e he (.nil)
      rw [hat] at ha
      subst ha
      have hq := ptrE_inv hv
      injection hq with hq
      subst hq
      have HB2 : Hid (Below w.heap.size w w2) := Lib.hid (HB.out.grown hg2 HB.out.size (fun k e => by injection e with e; exact Nat.le_of_eq e))
      have HR2 := Lib.hid hrg2
      have hfc := (HB2.out.block _ (heap_lt (H.out.file e he))).trans (H.out.file e he)
      have c3 : w2.cell? ⟨e.a, 0, none⟩ = some (.slice e.A e.f.bytes.length e.c) := cell_of_row w2 e.a 0 _ _ _ hfc
      have HS : Hid (seenE (fun z => lf z && !z.sameKey (.string e.f.name)) es = seenE lf es + e.f.bytes.length) := Lib.hid (seenE_step hlk (fun s => by rw [same_str]) HN.out he)
      have hle2 := seenE_le (fun z => lf z && !z.sameKey (.string e.f.name)) es
      rw [HS.out] at hle2
      have HLt := Lib.hid hlt
      have HR' := Lib.hid HR.out.left_eq
      have hw : IntKind.i64.wrap (((room - seenE lf es : Nat) : Int) - (e.f.bytes.length : Int)) = ((room - (seenE lf es + e.f.bytes.length) : Nat) : Int) := by rw [IntKind.wrap_i64]; omega
      clear hs2 hrg2 hg2 hfc hat hv ex hkey hhas hlt hle2 hle
      go_wp2_with fail
      go_roundw
      case rel => exact ⟨_, cnt2, HR2, by rw [HS.out], HB2⟩
      case measure => rw [HR2.out.left_eq, HR'.out]; exact HLt.out
end
end Go.Proofs.Ytobgiialecgpnaa
