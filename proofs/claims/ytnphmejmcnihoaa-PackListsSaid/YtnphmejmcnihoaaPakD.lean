/- Walks of package pack: ints, flags and texts are packed; what was packed is told. -/
import Derived.Test.YtnphmejmcnihoaaPakC
import Derived.Lib.ConvBytes
set_option linter.unusedSimpArgs false
set_option linter.unusedVariables false
namespace Go.Proofs.Ytnphmejmcnihoaa
open Go.ChangeShapes Go.WideShapes Go.ChangeAt Go.RowKit Go.Base Go.Pk

theorem xor_all64 (x : Nat) (h : x < 18446744073709551616) : x ^^^ 18446744073709551615 = 18446744073709551615 - x := by
  apply Nat.eq_of_testBit_eq
  intro i
  rw [Nat.testBit_xor, show 18446744073709551615 - x = 2 ^ 64 - (x + 1) by omega, Nat.testBit_two_pow_sub_succ (by omega), show (18446744073709551615 : Nat) = 2 ^ 64 - 1 by decide, Nat.testBit_two_pow_sub_one]
  by_cases hi : i < 64
  · simp [hi]
  · have : x.testBit i = false := Nat.testBit_lt_two_pow (Nat.lt_of_lt_of_le (show x < 2 ^ 64 by omega) (Nat.pow_le_pow_right (by decide) (by omega)))
    simp [hi, this]
theorem zig_pos (n : Int) (h1 : 0 ≤ n) (h2 : n ≤ 9223372036854775807) : bits BinOp.xor IntKind.u64 (n * 2) (n / 9223372036854775808) = ((whole n : Nat) : Int) := by
  obtain ⟨k, rfl⟩ : ∃ k : Nat, n = (k : Int) := ⟨n.toNat, by omega⟩
  have h3 := u64_xor_nat (2 * k) 0 (by omega) (by omega)
  have e1 : (k : Int) / 9223372036854775808 = ((0 : Nat) : Int) := by omega
  have e2 : (k : Int) * 2 = ((2 * k : Nat) : Int) := by omega
  rw [e1, e2, h3, Nat.xor_zero]
  unfold whole
  rw [if_pos h1]; omega
theorem zig_neg (n : Int) (h1 : n < 0) (h2 : -9223372036854775808 ≤ n) : bits BinOp.xor IntKind.u64 (IntKind.u64.wrap (IntKind.u64.wrap n * 2)) (IntKind.u64.wrap (n / 9223372036854775808)) = ((whole n : Nat) : Int) := by
  obtain ⟨k, rfl⟩ : ∃ k : Nat, n = -(k : Int) - 1 := ⟨(-n - 1).toNat, by omega⟩
  have e1 : IntKind.u64.wrap ((-(k : Int) - 1) / 9223372036854775808) = ((18446744073709551615 : Nat) : Int) := by rw [IntKind.wrap_u64]; omega
  have e2 : IntKind.u64.wrap (IntKind.u64.wrap (-(k : Int) - 1) * 2) = ((18446744073709551616 - 2 * k - 2 : Nat) : Int) := by rw [IntKind.wrap_u64, IntKind.wrap_u64]; omega
  have h3 := u64_xor_nat (18446744073709551616 - 2 * k - 2) 18446744073709551615 (by omega) (by omega)
  rw [e1, e2, h3, xor_all64 _ (by omega)]
  unfold whole
  rw [if_neg (by omega)]; omega
theorem number_int (B : Nat) (s : Option (List UInt8)) (row : Option Nat) (z : Int) (n : Nat) (w : World) (hz : z = (n : Int)) (h : Pak w B s row) (hn : n < 18446744073709551616) :
    Calls Try.prog 11 #[.pointer (some ⟨B, 0, none⟩), .int .u64 z] w fun e w' => e = .returned (.tuple #[]) ∧ PakPost w B row (putB s (numB n)) w' := by
  subst hz; exact number_any B s row n w h hn

set_option maxHeartbeats 1000000 in
theorem int_any (B : Nat) (s : Option (List UInt8)) (row : Option Nat) (n : Int) (w : World) (h : Pak w B s row) (h1 : -9223372036854775808 ≤ n) (h2 : n ≤ 9223372036854775807) :
    Calls Try.prog 14 #[.pointer (some ⟨B, 0, none⟩), .int .i64 n] w fun e w' => e = .returned (.tuple #[]) ∧ PakPost w B row (putB s (numB (whole n))) w' := by
  have HP := Lib.hid h
  have hw := whole_lt h1 h2
  have HW := Lib.hid hw
  clear h hw
  by_cases h0 : 0 ≤ n
  · have HZ := Lib.hid (zig_pos n h0 h2)
    go_enter Try.func14, Try.ntmps14
    go_wp2_with (go_at_call 11; refine (number_int B s row _ _ _ HZ.out HP.out HW.out).mono ?_; rintro e w1 ⟨rfl, hp⟩; have HQ := Lib.hid hp; clear hp)
    go_returns
    exact ⟨rfl, HQ.out⟩
  · have h0' : n < 0 := by omega
    have HZ := Lib.hid (zig_neg n h0' h1)
    clear h0
    go_enter Try.func14, Try.ntmps14
    go_wp2_with (go_at_call 11; refine (number_int B s row _ _ _ HZ.out HP.out HW.out).mono ?_; rintro e w1 ⟨rfl, hp⟩; have HQ := Lib.hid hp; clear hp)
    go_returns
    exact ⟨rfl, HQ.out⟩

set_option maxHeartbeats 1000000 in
theorem flag_any (B : Nat) (s : Option (List UInt8)) (row : Option Nat) (b : Bool) (w : World) (h : Pak w B s row) :
    Calls Try.prog 16 #[.pointer (some ⟨B, 0, none⟩), .bool b] w fun e w' => e = .returned (.tuple #[]) ∧ PakPost w B row (putB s [if b then 1 else 0]) w' := by
  have HP := Lib.hid h
  clear h
  cases b
  · go_enter Try.func16, Try.ntmps16
    go_wp2_with (go_at_call 34; refine (take_len B s row _ [0] _ _ _ (by simp) (HP.out.later (below_alloc w _)) (byt_of_heap (heap_new w _) rfl) (by simp [maxLen])).mono ?_; rintro e w1 ⟨rfl, hp⟩; have HQ := Lib.hid (PakPost.later (below_alloc w _) hp); clear hp)
    go_returns
    exact ⟨rfl, HQ.out⟩
  · go_enter Try.func16, Try.ntmps16
    go_wp2_with (go_at_call 34; refine (take_len B s row _ [1] _ _ _ (by simp) (HP.out.later (below_alloc w _)) (byt_of_heap (heap_new w _) rfl) (by simp [maxLen])).mono ?_; rintro e w1 ⟨rfl, hp⟩; have HQ := Lib.hid (PakPost.later (below_alloc w _) hp); clear hp)
    go_returns
    exact ⟨rfl, HQ.out⟩

section
variable {P : Program}
/-- '[]byte(s)': a new block that holds the text's bytes. -/
theorem wpList_bytes_of {w : World} {ops : Array Oper} {rest : List Oper} {o : Oper} {a : Act} {Q : Exit → Act → World → Prop} (hgd : Region.wanted o (yielded ops a.tmps) = true) (x : Operand) (src dst e : TypeId) (ho : o.op = .convert src dst x)
    (hs : P.underlying src = some .string) (hd : P.underlying dst = some (.slice e)) (he : P.underlying e = some (.int .u8)) (s : ByteArray) (hx : a.eval x = .string s)
    (h : ∀ cap w1, Byt w1 (some ⟨w.heap.size, 0, none⟩) s.data.toList → Below w.heap.size w w1 → w1.heap.size = w.heap.size + 1 → wpList P ops Q rest (a.put o.dst (.slice (some ⟨w.heap.size, 0, none⟩) s.size cap)) w1) : wpList P ops Q (o :: rest) a w :=
  wpList_step fun K hK => by
    rw [if_pos hgd]
    unfold Oper.wp execOp
    simp only [ho, Sem.run_bind, Sem.run_pure, Result.andThen_ok, hx, Lib.run_convert_string_bytes w src dst e s hs hd he]
    refine hK _ _ (h _ _ (fun i hi => ⟨w.heap.size, 0, rfl, ?_⟩) ⟨rfl, rfl, rfl, by rw [Lib.bytesWorld_size]; omega, fun k hk => Lib.bytesWorld_at_old w e s k hk⟩ (Lib.bytesWorld_size w e s))
    have hi' : i < s.size := by simpa using hi
    rw [Nat.zero_add, Lib.bytesWorld_cell w e s i hi']
    simp [List.getD, Array.getElem?_eq_getElem (show i < s.data.size from hi')]
end

set_option maxHeartbeats 1000000 in
theorem text_any (B : Nat) (s : Option (List UInt8)) (row : Option Nat) (t : ByteArray) (w : World) (h : Pak w B s row) (hm : t.size ≤ maxLen) :
    Calls Try.prog 18 #[.pointer (some ⟨B, 0, none⟩), .string t] w fun e w' => e = .returned (.tuple #[]) ∧ PakPost w B row (putText s t.data.toList) w' := by
  have HP := Lib.hid h
  have hl : t.data.toList.length = t.size := by simp
  have HL := Lib.hid hl
  clear h hl
  unfold maxLen at hm
  by_cases h4 : 4096 < t.size
  · have h4' : 4096 < (t.size : Int) := by omega
    have HT : Hid (putText s t.data.toList = none) := Lib.hid (by unfold putText; rw [if_pos (by rw [HL.out]; exact h4)])
    go_enter Try.func18, Try.ntmps18
    go_wp2_with (go_at_call 36; refine (fail_any B s row _ HP.out).mono ?_; rintro e w1 ⟨rfl, hp⟩; have HQ := Lib.hid hp; clear hp)
    go_returns
    exact ⟨rfl, by rw [HT.out]; exact HQ.out⟩
  · have h4' : (t.size : Int) ≤ 4096 := by omega
    have HT : Hid (putText s t.data.toList = putB (putB s (numB t.size)) t.data.toList) := Lib.hid (by unfold putText; rw [if_neg (by rw [HL.out]; exact h4), HL.out])
    go_enter Try.func18, Try.ntmps18
    go_wp2_with (first | (go_at_call 11; refine (number_any B s row t.size _ HP.out (by omega)).mono ?_; rintro e w1 ⟨rfl, row1, hp, hmv, hr⟩; have HP1 := Lib.hid hp; have HM := Lib.hid hmv; have HR := Lib.hid hr; clear hp hmv hr) | (go_at_call 34; refine (take_len B _ row1 _ t.data.toList _ _ _ HL.out.symm (HP1.out.later HB2.out) HY.out (by rw [HL.out]; unfold maxLen; omega)).mono ?_; rintro e w3 ⟨rfl, hp⟩; have HQ := Lib.hid (PakPost.trans (s1 := s) HM.out HR.out (PakPost.later HB2.out hp)); clear hp) | (refine wpList_bytes_of (by rfl) (.tmp 15) 9 26 5 (by rfl) Try.underlying9 Try.underlying26 Try.underlying5 t (by rfl) ?_; intro cap2 w2 hy hb2 hz2; have HY := Lib.hid hy; have HB2 := Lib.hid hb2; clear hy hb2 hz2))
    go_returns
    exact ⟨rfl, by rw [HT.out]; exact HQ.out⟩

/-- bytes.Clone: nil of nil, else a new row of the same bytes. -/
theorem clone_nil (c : Nat) (w : World) : Calls Try.prog 38 #[.slice none 0 c] w fun e w' => e = .returned (.slice none 0 0) ∧ w = w' := by
  have hsn := fun (w : World) (a : Option Addr) (n c n' c' : Nat) => Lib.run_eql_slice_nil (P := Try.prog) w 26 5 a n c n' c' Try.underlying26
  go_enter Try.func38, Try.ntmps38
  go_wp2
  go_ret
  exact ⟨rfl, rfl⟩
def ClonePost (w : World) (ys : List UInt8) (e : Ending) (w' : World) : Prop :=
  ∃ A c, e = .returned (.slice A ys.length c) ∧ Byt w' A ys ∧ Below w.heap.size w w' ∧ (∀ k, (Value.slice A ys.length c).ownBlock = some k → w.heap.size ≤ k ∧ k < w'.heap.size) ∧ ys.length ≤ c ∧ c ≤ maxLen
theorem own_cap {w : World} {base n cap : Nat} {e : TypeId} {A : Option Addr} {xs : List Value} (h : w.ownsRow base e 1 (.slice A n cap) n xs) : n ≤ cap ∧ cap ≤ maxLen := by
  rcases h.2 with ⟨h, rfl⟩ | ⟨g', cap', cur, hv, hb, hg, hn, hc, _⟩
  · injection h with _ _ h; subst h; exact ⟨Nat.le_refl _, Nat.zero_le _⟩
  · injection hv with _ _ hv; subst hv; exact ⟨hn, hc⟩
set_option maxHeartbeats 1000000 in
theorem clone_some (ad : Addr) (ys : List UInt8) (c : Nat) (w : World) (hy : Byt w (some ad) ys) (hm : ys.length ≤ 140737488355328) :
    Calls Try.prog 38 #[.slice (some ad) ys.length c] w (ClonePost w ys) := by
  have HY := Lib.hid hy
  obtain ⟨i0, hi0, hz0, hz1, hz2⟩ := info_parts u8_info
  clear hy
  have hsn := fun (w : World) (a : Option Addr) (n c n' c' : Nat) => Lib.run_eql_slice_nil (P := Try.prog) w 26 5 a n c n' c' Try.underlying26
  go_enter Try.func38, Try.ntmps38
  go_wp2_with (at_builtin; refine wpList_append_byt _ (by rfl) (.tmp 5) (.tmp 6) 26 (by rfl) 5 i0 Try.underlying26 hi0 hz0 hz1 hz2 w.heap.size (.slice (some ⟨w.heap.size, 0, none⟩) 0 0) [] (by rfl) (World.ownsRow_made w #[] 0 (Nat.le_refl _) (by decide) rfl) (some ad) c ys (by rfl) (HY.out.alloc _) (by simp only [List.length_nil]; omega) (by simp) ?_; intro A1 c1 w1 hown hgrow hat; simp only [List.nil_append] at hown ⊢; have HO1 := Lib.hid (own_byt_any hown); have HB1 : Hid (Below w.heap.size w w1) := Lib.hid (((Below.refl _ _).alloc (Nat.le_refl _) _).grown hgrow (by simp) (by intro k hk; simp [Value.ownBlock] at hk; omega)); have HL := Lib.hid (own_base hown); have HK := Lib.hid (own_cap hown); clear hown hgrow hat)
  go_ret
  exact ⟨A1, c1, rfl, HO1.out, HB1.out, HL.out, HK.out⟩
theorem clone_any (A : Option Addr) (ys : List UInt8) (c : Nat) (w : World) (hy : Byt w A ys) (hm : ys.length ≤ 140737488355328) :
    Calls Try.prog 38 #[.slice A ys.length c] w (ClonePost w ys) := by
  rcases A with _ | ad
  · have : ys = [] := by
      cases ys with
      | nil => rfl
      | cons y ys => obtain ⟨_, _, h, _⟩ := hy 0 (by simp); cases h
    subst this
    exact (clone_nil c w).mono fun e w' ⟨he, hw⟩ => by subst hw; exact ⟨none, 0, he, Byt.nil _ _, Below.refl _ _, (fun k h => by cases h), Nat.le_refl _, Nat.zero_le _⟩
  · exact clone_some ad ys c w hy hm

def DonePost (w : World) (s : Option (List UInt8)) (e : Ending) (w' : World) : Prop :=
  ∃ A n c, e = .returned (.tuple #[.slice A n c, .int .i64 (if s.isNone then 3 else 0)]) ∧ Below w.heap.size w w' ∧ n = (s.getD []).length ∧ Byt w' A (s.getD []) ∧ (∀ k, (Value.slice A n c).ownBlock = some k → w.heap.size ≤ k ∧ k < w'.heap.size)
set_option maxHeartbeats 1000000 in
theorem done_none (B : Nat) (row : Option Nat) (w : World) (h : Pak w B none row) :
    Calls Try.prog 22 #[.pointer (some ⟨B, 0, none⟩)] w (DonePost w none) := by
  obtain ⟨A0, n, cap, hb, hr, h0, h1⟩ := h
  obtain ⟨hc, hf⟩ := cells_of_heap hb
  have c0 := hc 0
  have c1 := hc 1
  clear hc hf hb hr h0 h1
  go_enter Try.func22, Try.ntmps22
  go_wp2
  go_returns
  exact ⟨none, 0, 0, rfl, Below.refl _ _, rfl, Byt.nil _ _, fun k h => by cases h⟩
set_option maxHeartbeats 1000000 in
theorem done_some (B : Nat) (xs : List UInt8) (row : Option Nat) (w : World) (h : Pak w B (some xs) row) :
    Calls Try.prog 22 #[.pointer (some ⟨B, 0, none⟩)] w (DonePost w (some xs)) := by
  obtain ⟨A0, n, cap, hb, hr, h0, h1⟩ := h
  obtain ⟨rfl, hx, ho⟩ := h1 xs rfl
  obtain ⟨hc, hf⟩ := cells_of_heap hb
  have c0 := hc 0
  have c1 := hc 1
  have HY := Lib.hid (own_byt_any ho)
  clear hc hf hb hr h0 h1 ho
  go_enter Try.func22, Try.ntmps22
  go_wp2_with (go_at_call 38; refine (clone_any A0 xs cap _ HY.out (by omega)).mono ?_; rintro e w1 ⟨A1, c2, rfl, hy1, hb1, hl1, _⟩; have HY1 := Lib.hid hy1; have HB1 := Lib.hid hb1; have HL1 := Lib.hid hl1; clear hy1 hb1 hl1)
  go_returns
  exact ⟨A1, _, c2, rfl, HB1.out, rfl, HY1.out, HL1.out⟩
theorem done_any (B : Nat) (s : Option (List UInt8)) (row : Option Nat) (w : World) (h : Pak w B s row) :
    Calls Try.prog 22 #[.pointer (some ⟨B, 0, none⟩)] w (DonePost w s) := by
  rcases s with _ | xs
  · exact done_none B row w h
  · exact done_some B xs row w h
end Go.Proofs.Ytnphmejmcnihoaa
