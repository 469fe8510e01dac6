/- Walks of laws of package pack: nobody, lists of texts. -/
import Derived.Test.YtnphmejmcnihoaaPakJ
import Derived.BigQuiet
import Derived.Deep.QuietTactic
set_option linter.unusedSimpArgs false
set_option linter.unusedVariables false
namespace Go.Proofs.Ytnphmejmcnihoaa
open Go.ChangeShapes Go.WideShapes Go.ChangeAt Go.RowKit Go.Base Go.Pk

theorem gcatch_int (p q : Addr) (w : World) :
    CallsD Try.prog 45 #[.pointer (some p), .pointer (some q)] .returning w fun e u' w' => e = .returned (.tuple #[]) ∧ u' = .returning ∧ w' = w := by
  refine callsD_of_wpS Try.func45 rfl fun c₀ cs hu => ?_
  apply wpS_seq
  apply wpS_region
  simp [wpOpsS, go_sem, recoverD, hu, Try.ntmps45, Exit.thenS]
  refine wpS_cond (t := false) (by simp [Act.eval, Array.replicate]) ?_
  simp only [Bool.false_eq_true, if_false]
  refine wpS_of_wp (wp_skip ?_)
  cases c₀
  simp_all [bodyPostS, results, Try.results45]

set_option maxHeartbeats 1000000 in
theorem getList_nil (F : Value) (w : World) :
    Calls Try.prog 31 #[.pointer none, F] w fun e w' => e = .returned (.slice none 0 0) ∧ Below w.heap.size w w' := by
  have hmf : ∀ (fn : Fn) (first cap : Array Value) (w : World), (Instr.makeFunc fn first cap).run Try.prog w = .ok (.func fn first cap) w := fun _ _ _ _ => rfl
  have HB0 : Hid (Below w.heap.size w ((w.alloc (.cells #[.pointer none] 46)).alloc (.cells #[.slice none 0 0] 30))) := Lib.hid ((below_alloc w _).alloc (by simp) _)
  go_enter_defers Try.func31, Try.ntmps31
  go_wp2_with (go_at_call 39; refine (next_num_nil _ _).mono ?_; rintro e w1 ⟨rfl, rfl⟩)
  have hb1 := heap_new (w.alloc (.cells #[.pointer none] 46)) (.cells #[.slice none 0 0] 30)
  simp only [World.size_alloc] at hb1
  have c1 := (cells_of_heap hb1).1 0
  have f1 := (cells_of_heap hb1).2 0
  have HH := Lib.hid hb1
  clear hb1
  generalize (w.alloc (.cells #[.pointer none] 46)).alloc (.cells #[.slice none 0 0] 30) = W at *
  refine wp_loop_rounds 1 ?_
  rw [rounds_succ]
  go_wp2
  refine leaves_cons (f := 45) (args := #[.pointer (some ⟨w.heap.size, 0, none⟩), .pointer (some ⟨w.heap.size + 1, 0, none⟩)]) (by simp) (by simp [go_sem]) ?_
  refine (gcatch_int ⟨w.heap.size, 0, none⟩ ⟨w.heap.size + 1, 0, none⟩ _).mono ?_
  rintro e u' w'' ⟨rfl, rfl, rfl⟩
  have hx1 := heap_set HH.out 0 (.slice none 0 0)
  simp at hx1
  have g1 := (cells_of_heap hx1).1 0
  simp [Leaves, settle, results, Try.results31, go_sem, g1]
  exact HB0.out.setCell (Nat.le_succ _) _

set_option maxHeartbeats 4000000 in
set_option maxRecDepth 20000 in
theorem law_nobody (kind n : Int) (is : Bool) (t : ByteArray) (A : Option Addr) (m c : Nat) (w : World) (h1 : -9223372036854775808 ≤ n) (h2 : n ≤ 9223372036854775807) (ht : t.size ≤ maxLen) :
    Calls Try.prog 6 #[.agg #[.int .i64 kind, .int .i64 n, .bool is, .string t, .slice A m c]] w fun e w' => e = .returned (.bool true) ∧ Below w.heap.size w w' := by
  have HK := Lib.hid (fun (V : World) (h : Below (w.alloc (.cells #[.int .i64 kind, .int .i64 n, .bool is, .string t, .slice A m c] 32)).heap.size (w.alloc (.cells #[.int .i64 kind, .int .i64 n, .bool is, .string t, .slice A m c] 32)) V) => (cells_of_heap (kept_new h)).1)
  go_enter Try.func6, Try.ntmps6
  go_wp2_with (first | (go_at_call 11; refine (number_nil 1 1 _ rfl (by decide)).mono ?_; rintro e w1 ⟨rfl, hb⟩; have HB1 := Lib.hid hb; have c1 := HK.out _ hb 1; clear hb) | (go_at_call 14; refine (int_nil n _ h1 h2).mono ?_; rintro e w2 ⟨rfl, hb⟩; have HB2 := Lib.hid (HB1.out.trans (hb.mono HB1.out.size)); have c2 := HK.out _ HB2.out 2; clear hb c1) | (go_at_call 16; refine (flag_nil is _).mono ?_; rintro e w3 ⟨rfl, hb⟩; have HB3 := Lib.hid (HB2.out.trans (hb.mono HB2.out.size)); have c3 := HK.out _ HB3.out 3; clear hb c2) | (go_at_call 18; refine (text_nil t _ ht).mono ?_; rintro e w4 ⟨rfl, hb⟩; have HB4 := Lib.hid (HB3.out.trans (hb.mono HB3.out.size)); have c4 := HK.out _ HB4.out 4; clear hb c3) | (go_at_call 20; refine (putList_nil A m c _).mono ?_; rintro e w5 ⟨rfl, hb⟩; have HB5 := Lib.hid (HB4.out.trans (hb.mono HB4.out.size)); clear hb c4) | (go_at_call 22; refine (done_nil _).mono ?_; rintro e w6 ⟨rfl, rfl⟩) | (go_at_call 10; refine (lives_any _).mono ?_; rintro e w7 ⟨rfl, hb⟩; have HB7 := Lib.hid (HB5.out.trans (hb.mono HB5.out.size)); clear hb) | (go_at_call 24; refine (rnum_nil _).mono ?_; rintro e w8 ⟨rfl, rfl⟩) | (go_at_call 25; refine (rint_nil _).mono ?_; rintro e w8 ⟨rfl, rfl⟩) | (go_at_call 26; refine (rflag_nil _).mono ?_; rintro e w8 ⟨rfl, rfl⟩) | (go_at_call 27; refine (rtext_nil _).mono ?_; rintro e w8 ⟨rfl, rfl⟩) | (go_at_call 31; refine (getList_nil _ _).mono ?_; rintro e w9 ⟨rfl, hb⟩; have HB9 := Lib.hid (HB7.out.trans (hb.mono HB7.out.size)); clear hb) | (go_at_call 30; refine (left_nil _).mono ?_; rintro e w8 ⟨rfl, rfl⟩) | (go_at_call 29; refine (failed_nil _).mono ?_; rintro e w8 ⟨rfl, rfl⟩) | (go_at_call 28; refine (rdone_nil _).mono ?_; rintro e w8 ⟨rfl, rfl⟩))
  go_ret
  exact ⟨rfl, (below_alloc w _).trans (HB9.out.mono (by simp))⟩

/-- What a row of the call's own holds, of texts. -/
theorem own_strs {w : World} {base cap n : Nat} {A : Option Addr} {l : List (List UInt8)} {e : TypeId} (h : w.ownsRow base e 1 (.slice A n cap) n (l.map strV)) (i : Nat) (hi : i < l.length) : ∃ b, A = some ⟨b, 0, none⟩ ∧ w.cell? ⟨b, i, none⟩ = some (strV l[i]) := by
  obtain ⟨hl, h2⟩ := h
  rw [List.length_map] at hl
  rcases h2 with ⟨h, h0⟩ | ⟨g', cap', cur, hv, hb, hg, hn, hc, hs, ht⟩
  · omega
  · injection hv with hv _ _
    subst hv
    refine ⟨g', rfl, ?_⟩
    rw [cell_of_row w g' i cur e (0, 0) hg]
    have : (cur.toList.take (n * 1))[i]? = (l.map strV)[i]? := by rw [ht]
    rw [List.getElem?_take_of_lt (by omega), List.getElem?_map, List.getElem?_eq_getElem hi] at this
    simpa using this
theorem textsB_len : ∀ l : List (List UInt8), (∀ x ∈ l, x.length ≤ 4096) → (textsB l).length ≤ l.length * 4106
  | [], _ => by simp [textsB]
  | x :: l, h => by
    have h1 := h x (by simp)
    have h2 := textsB_len l (fun y hy => h y (by simp [hy]))
    have h3 := numB_ten (n := x.length) (by omega)
    have e : textsB (x :: l) = (numB x.length ++ x) ++ textsB l := rfl
    rw [e, List.length_append, List.length_append, List.length_cons]
    omega
theorem PkL.putStr {W w : World} {B : Nat} {s : Option (List UInt8)} (h : PkL W B s w) (A : Option Addr) (l : List (List UInt8)) (c : Nat) (hi : Strs W A l) (hm : l.length ≤ maxLen) :
    Calls Try.prog 32 #[.pointer (some ⟨B, 0, none⟩), .slice A l.length c, .func (.func 18) #[] #[]] w fun e w' => e = .returned (.tuple #[]) ∧ PkL W B (putListT s l) w' := by
  obtain ⟨row, hp, hb, hB, hr⟩ := h
  refine (putList_str B s row A l c w hp (hi.later hb) hm (fun b o e h0 => ?_)).mono fun e w' ⟨he, row', hp', hm', hr'⟩ => ⟨he, row', hp', hb.trans (hm'.below (fun k hk h => ?_) hb.size), hB, fun k hk => ?_⟩
  · obtain ⟨b', o', e', hc, _⟩ := hi 0 h0
    rw [e] at e'; injection e' with e'; injection e' with e1 e2 _; subst e1; subst e2
    have hlt : b < W.heap.size := World.block_lt_of_cell? W _ hc
    exact ⟨by omega, fun e => by have := hr b e; omega⟩
  · rcases h with rfl | h
    · exact hB
    · exact hr k h
  · rcases hr' k hk with h | h
    · exact hr k h
    · exact Nat.le_trans hb.size h
def GetL (W w : World) (R : Nat) (l : List (List UInt8)) (e : Ending) (w' : World) : Prop :=
  ∃ A c, e = .returned (.slice A l.length c) ∧ (∀ i (hi : i < l.length), ∃ b, A = some ⟨b, 0, none⟩ ∧ w'.cell? ⟨b, i, none⟩ = some (strV l[i])) ∧ RdL W R [] false w'
theorem RdL.getStr {W w : World} {R : Nat} {l : List (List UInt8)} (h : RdL W R (numB l.length ++ textsB l) false w) (hl : l.length ≤ 4096) (hx : ∀ x ∈ l, x.length ≤ 4096) :
    Calls Try.prog 33 #[.pointer (some ⟨R, 0, none⟩), .func (.func 27) #[] #[]] w (GetL W w R l) := by
  obtain ⟨row, hp, hb, hB, hr⟩ := h
  have hrow : ∀ k, row = some k → k < w.heap.size := by
    obtain ⟨A, cap, hb', hy, rfl, _⟩ := hp
    intro k hk
    obtain ⟨b, o, rfl, hc⟩ := hy 0 (by have := numB_pos l.length; simp; omega)
    simp [Value.ownBlock] at hk
    subst hk
    exact World.block_lt_of_cell? w _ hc
  have hp2 : Rdr w R row (numB l.length ++ (textsB l ++ [])) false := by rw [List.append_nil]; exact hp
  refine (getList_str R row l [] w hp2 hl hx hrow).mono fun e w' ⟨A, c, he, ho, hp', hm⟩ => ⟨A, c, he, fun i hi => own_strs ho i hi, row, hp', hb.trans (hm.below (fun k hk h => by subst h; exact hB) hb.size), hB, hr⟩

set_option maxHeartbeats 4000000 in
theorem law_lists_none (A : Option Addr) (l : List (List UInt8)) (c : Nat) (w : World) (hi : Strs w A l) (hm : l.length ≤ maxLen) (hs : putListT (some []) l = none) :
    Calls Try.prog 8 #[.slice A l.length c] w fun e w' => e = .returned (.bool true) ∧ Below w.heap.size w w' := by
  have HI := Lib.hid hi
  have HS := Lib.hid hs
  clear hi hs
  go_enter Try.func8, Try.ntmps8
  go_wp2_with (first | (go_at_call 9; refine (new_any _).mono ?_; rintro e w1 ⟨rfl, rfl⟩; have HP := Lib.hid (PkL.new w)) | (go_at_call 10; refine (lives_any _).mono ?_; rintro e w2 ⟨rfl, hb⟩; have HP2 := Lib.hid (HP.out.later hb); clear hb) | (go_at_call 32; refine (HP2.out.putStr A l c HI.out hm).mono ?_; rintro e w3 ⟨rfl, hp⟩; rw [HS.out] at hp; have HP3 := Lib.hid hp; clear hp) | (go_at_call 22; refine (doneL_any HP3.out).mono ?_; rintro e w5 ⟨A5, n5, c5, rfl, hb5, hc5, rfl, hy5⟩; have HB5 := Lib.hid hb5; clear hb5 hc5 hy5; simp only [Option.getD_none, Option.isNone_none, if_true, List.length_nil]))
  go_ret
  exact ⟨rfl, HB5.out⟩
set_option maxHeartbeats 4000000 in
theorem law_lists_some (A : Option Addr) (l : List (List UInt8)) (c : Nat) (w : World) (hi : Strs w A l) (hm : l.length ≤ maxLen) (bs : List UInt8) (hs : putListT (some []) l = some bs) :
    Calls Try.prog 8 #[.slice A l.length c] w fun e w' => e = .returned (.bool true) ∧ Below w.heap.size w w' := by
  have HI := Lib.hid hi
  obtain ⟨hl4, hx4, hbs⟩ := putListT_some hs
  have HS := Lib.hid hs
  have HX := Lib.hid hx4
  have HBS := Lib.hid hbs
  have hbl : bs.length ≤ 140737488355328 := by
    have h1 := numB_ten (n := l.length) (by omega)
    have h2 := textsB_len l hx4
    have h3 : l.length * 4106 ≤ 4096 * 4106 := Nat.mul_le_mul_right _ hl4
    rw [hbs, List.length_append]; omega
  have hl4' : (l.length : Int) ≤ 4096 := by omega
  clear hi hs hx4 hbs
  go_enter Try.func8, Try.ntmps8
  go_wp2_with (first | (go_at_call 9; refine (new_any _).mono ?_; rintro e w1 ⟨rfl, rfl⟩; have HP := Lib.hid (PkL.new w)) | (go_at_call 10; refine (lives_any _).mono ?_; rintro e w2 ⟨rfl, hb⟩; have HP2 := Lib.hid (HP.out.later hb); clear hb) | (go_at_call 32; refine (HP2.out.putStr A l c HI.out hm).mono ?_; rintro e w3 ⟨rfl, hp⟩; rw [HS.out] at hp; have HP3 := Lib.hid hp; clear hp) | (go_at_call 22; refine (doneL_any HP3.out).mono ?_; rintro e w5 ⟨A5, n5, c5, rfl, hb5, hc5, rfl, hy5⟩; have HB5 := Lib.hid hb5; have HC5 := Lib.hid hc5; have HY5 : Hid (Byt w5 A5 bs) := Lib.hid hy5; clear hb5 hc5 hy5; simp only [Option.getD_some, Option.isNone_some, Bool.false_eq_true, if_false]) | (go_at_call 23; refine (readL_any _ bs _ _ _ rfl HY5.out hbl).mono ?_; rintro e w6 ⟨R, rfl, hr⟩; rw [HBS.out] at hr; have HR6 := Lib.hid hr; clear hr) | (go_at_call 33; refine (HR6.out.getStr hl4 HX.out).mono ?_; rintro e w7 ⟨A7, c7, rfl, hx7, hr⟩; have HR7 := Lib.hid hr; have HX7 := Lib.hid hx7; clear hr hx7) | (go_at_call 28; refine (RdL.look HR7.out (E := .returned (.int .i64 0)) (fun row h => rdone_any R row _ _ _ h)).mono ?_; rintro e w10 ⟨rfl, rfl⟩))
  have HB7 : Hid (Below w.heap.size w w7) := Lib.hid (HB5.out.trans (HR7.out.below.mono HB5.out.size))
  go_loopw [8] (fun i wr => ∃ k n : Nat, k ≤ l.length ∧ i = .int .i64 (k : Int) ∧ wr = w7.drewN n) (fun i _ => l.length - (intOf i).toNat)
  case atStart => exact ⟨0, 0, Nat.zero_le _, rfl, rfl⟩
  case round =>
    obtain ⟨k, n, hk, rfl, rfl⟩ := hrel
    by_cases hlt : k < l.length
    · have hlt' : (k : Int) < (l.length : Int) := by omega
      have hk0 : (0 : Int) ≤ (k : Int) := by omega
      obtain ⟨b1, o1, rfl, hc1, _⟩ := HI.out k hlt
      obtain ⟨b2, rfl, hc2⟩ := HX7.out k hlt
      have hc1' := cell_later HB7.out hc1
      unfold strV at hc2
      generalize l[k] = x at *
      clear hc1
      go_wp2_with fail
      go_quiet (fail)
      go_wp2
      go_goals
      go_roundw
      case rel => exact ⟨k + 1, _, by omega, by go_num, rfl⟩
      case measure => simp [intOf]; omega
    · obtain rfl : k = l.length := by omega
      go_wp2
      go_ret
      exact ⟨rfl, below_drewN HB7.out _⟩
theorem law_lists (A : Option Addr) (l : List (List UInt8)) (c : Nat) (w : World) (hi : Strs w A l) (hm : l.length ≤ maxLen) :
    Calls Try.prog 8 #[.slice A l.length c] w fun e w' => e = .returned (.bool true) ∧ Below w.heap.size w w' := by
  cases hs : putListT (some []) l with
  | none => exact law_lists_none A l c w hi hm hs
  | some bs => exact law_lists_some A l c w hi hm bs hs
end Go.Proofs.Ytnphmejmcnihoaa
