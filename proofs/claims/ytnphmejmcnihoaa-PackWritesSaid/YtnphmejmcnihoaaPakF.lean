/- Walks of package pack: a reader. -/
import Derived.Test.YtnphmejmcnihoaaPakE
import Derived.Lib.SliceRun
import Derived.Lib.BufferRead
set_option linter.unusedSimpArgs false
set_option linter.unusedVariables false
namespace Go.Proofs.Ytnphmejmcnihoaa
open Go.ChangeShapes Go.WideShapes Go.ChangeAt Go.RowKit Go.Base Go.Pk

def rdFlag (bs : List UInt8) : Option (Bool × Nat) := match bs with
  | [] => none
  | c :: _ => if c.toNat ≤ 1 then some (c.toNat == 1, 1) else none
def rdText (bs : List UInt8) : Option (List UInt8 × Nat) := (rdNum bs).bind fun p => if 4096 < p.1 ∨ bs.length - p.2 < p.1 then none else some ((bs.drop p.2).take p.1, p.2 + p.1)
def flagV (o : Option (Bool × Nat)) : Value := match o with
  | none => .tuple #[.bool false, .int .i64 0]
  | some (v, k) => .tuple #[.bool v, .int .i64 (k : Int)]
def textV (o : Option (List UInt8 × Nat)) : Value := match o with
  | none => .tuple #[.string ⟨#[]⟩, .int .i64 0]
  | some (v, k) => .tuple #[.string ⟨v.toArray⟩, .int .i64 (k : Int)]

/-- The reader in block R has bs left (in block 'row'), and has failed, or not. -/
def Rdr (w : World) (R : Nat) (row : Option Nat) (bs : List UInt8) (bad : Bool) : Prop :=
  ∃ A cap, w.heap[R]? = some (.cells #[.slice A bs.length cap, .bool bad] 71 (0, 0)) ∧ Byt w A bs ∧ (Value.slice A bs.length cap).ownBlock = row ∧ (∀ k, row = some k → k ≠ R) ∧ bs.length ≤ cap ∧ cap ≤ maxLen
def RdrPost (w : World) (R : Nat) (row : Option Nat) (bs : List UInt8) (bad : Bool) (w' : World) : Prop := Rdr w' R row bs bad ∧ Moved (fun k => k = R) w w'
theorem Byt.moved {p : Nat → Prop} {w w' : World} {A : Option Addr} {bs : List UInt8} {n c : Nat} (h : Byt w A bs) (hm : Moved p w w') (hn : ∀ k, (Value.slice A n c).ownBlock = some k → ¬ p k) : Byt w' A bs := fun i hi => by
  obtain ⟨b, o, rfl, hc⟩ := h i hi
  exact ⟨b, o, rfl, hm.cell hc (hn b rfl)⟩
theorem Rdr.moved {p : Nat → Prop} {w w' : World} {R : Nat} {row : Option Nat} {bs : List UInt8} {bad : Bool} (h : Rdr w R row bs bad) (hm : Moved p w w') (hR : ¬ p R) (hr : ∀ k, row = some k → ¬ p k) : Rdr w' R row bs bad := by
  obtain ⟨A, cap, hb, hy, rfl, hn, hl⟩ := h
  exact ⟨A, cap, hm.heap hb hR, hy.moved hm hr, rfl, hn, hl⟩
theorem Rdr.later {w w' : World} {R : Nat} {row : Option Nat} {bs : List UInt8} {bad : Bool} (h : Rdr w R row bs bad) (hb : Below w.heap.size w w') : Rdr w' R row bs bad :=
  h.moved (p := fun _ => False) (Below.movedNew hb) (fun h => h) (fun _ _ h => h)
theorem Byt.drop {w : World} {b o : Nat} {bs : List UInt8} (h : Byt w (some ⟨b, o, none⟩) bs) (k : Nat) : Byt w (some ⟨b, o + k, none⟩) (bs.drop k) := fun i hi => by
  rw [List.length_drop] at hi
  have := h.at_ (k := k + i) (by omega)
  refine ⟨b, o + k, rfl, ?_⟩
  rw [Nat.add_assoc, this]
  simp
theorem Byt.take {w : World} {A : Option Addr} {bs : List UInt8} (h : Byt w A bs) (k : Nat) : Byt w A (bs.take k) := fun i hi => by
  have hi' : i < bs.length := by rw [List.length_take] at hi; omega
  obtain ⟨b, o, e, c⟩ := h i hi'
  exact ⟨b, o, e, by rw [c]; simp⟩

theorem failed_any (R : Nat) (row : Option Nat) (bs : List UInt8) (bad : Bool) (w : World) (h : Rdr w R row bs bad) :
    Calls Try.prog 29 #[.pointer (some ⟨R, 0, none⟩)] w fun e w' => e = .returned (.bool bad) ∧ w = w' := by
  obtain ⟨A0, cap, hb, hy, hr, h0⟩ := h
  obtain ⟨hc, hf⟩ := cells_of_heap hb
  have c1 := hc 1
  clear hc hf hb hr h0 hy
  go_enter Try.func29, Try.ntmps29
  go_wp2
  go_ret
  exact ⟨rfl, rfl⟩
theorem left_any (R : Nat) (row : Option Nat) (bs : List UInt8) (bad : Bool) (w : World) (h : Rdr w R row bs bad) :
    Calls Try.prog 30 #[.pointer (some ⟨R, 0, none⟩)] w fun e w' => e = .returned (.int .i64 (bs.length : Int)) ∧ w = w' := by
  obtain ⟨A0, cap, hb, hy, hr, h0⟩ := h
  obtain ⟨hc, hf⟩ := cells_of_heap hb
  have c1 := hc 0
  clear hc hf hb hr h0 hy
  go_enter Try.func30, Try.ntmps30
  go_wp2
  go_ret
  exact ⟨rfl, rfl⟩
theorem rdone_any (R : Nat) (row : Option Nat) (bs : List UInt8) (bad : Bool) (w : World) (h : Rdr w R row bs bad) :
    Calls Try.prog 28 #[.pointer (some ⟨R, 0, none⟩)] w fun e w' => e = .returned (.int .i64 (if bad || !bs.isEmpty then 60 else 0)) ∧ w = w' := by
  obtain ⟨A0, cap, hb, hy, hr, h0⟩ := h
  obtain ⟨hc, hf⟩ := cells_of_heap hb
  have c0 := hc 0
  have c1 := hc 1
  clear hc hf hb hr h0 hy
  cases bad
  · rcases bs with _ | ⟨b, bs⟩
    · go_enter Try.func28, Try.ntmps28
      go_wp2
      go_ret
      exact ⟨rfl, rfl⟩
    · have hp : (0 : Int) < (((b :: bs).length : Nat) : Int) := by simp
      have hp' : (0 : Int) < (bs.length : Int) + 1 := by omega
      go_enter Try.func28, Try.ntmps28
      go_wp2
      go_ret
      exact ⟨rfl, rfl⟩
  · go_enter Try.func28, Try.ntmps28
    go_wp2
    go_ret
    exact ⟨rfl, rfl⟩
theorem rfail_any (R : Nat) (row : Option Nat) (bs : List UInt8) (bad : Bool) (w : World) (h : Rdr w R row bs bad) :
    Calls Try.prog 46 #[.pointer (some ⟨R, 0, none⟩)] w fun e w' => e = .returned (.tuple #[]) ∧ RdrPost w R row bs true w' := by
  have HP := Lib.hid h
  obtain ⟨A0, cap, hb, hy, hr, h0⟩ := h
  obtain ⟨hc, hf⟩ := cells_of_heap hb
  have c1 := hc 1
  have f1 := hf 1
  have HB := Lib.hid hb
  have HY := Lib.hid hy
  have HR := Lib.hid hr
  have H0 := Lib.hid h0
  clear hc hf hb hr h0 hy
  go_enter Try.func46, Try.ntmps46
  go_wp2
  go_returns
  have hm : Moved (fun k => k = R) w (w.setCell ⟨R, 1, none⟩ (.bool true)) := (Moved.refl (fun k => k = R) w).setCell (.inr rfl) _
  have hset := heap_set HB.out 1 (.bool true)
  exact ⟨rfl, ⟨A0, cap, by simpa using hset, HY.out.moved hm (by rw [HR.out]; exact H0.out.1), HR.out, H0.out⟩, hm⟩

theorem firstFlag_any (A : Option Addr) (bs : List UInt8) (c : Nat) (w : World) (hy : Byt w A bs) :
    Calls Try.prog 42 #[.slice A bs.length c] w fun e w' => e = .returned (flagV (rdFlag bs)) ∧ w = w' := by
  rcases bs with _ | ⟨b, bs⟩
  · go_enter Try.func42, Try.ntmps42
    go_wp2
    go_ret2
    exact ⟨rfl, rfl⟩
  · obtain ⟨bb, o, rfl, hc⟩ := hy 0 (by simp)
    have hb := b.toNat_lt
    have hl : (0 : Int) < (bs.length : Int) + 1 := by omega
    have hl2 : (((bs.length : Int) + 1) == 0) = false := by rw [beq_eq_false_iff_ne]; omega
    have hc' : w.cell? ⟨bb, o, none⟩ = some (.int .u8 (b.toNat : Int)) := hc
    clear hy hc
    by_cases h1 : b.toNat ≤ 1
    · have HF : Hid (rdFlag (b :: bs) = some (b.toNat == 1, 1)) := Lib.hid (by show (if b.toNat ≤ 1 then some (b.toNat == 1, 1) else none) = _; rw [if_pos h1])
      have h1' : (b.toNat : Int) ≤ 1 := by omega
      go_enter Try.func42, Try.ntmps42
      go_wp2
      go_ret2
      rw [HF.out]
      have : (((b.toNat : Int) == 1)) = (b.toNat == 1) := by rw [Bool.eq_iff_iff]; simp; omega
      exact ⟨by rw [this]; rfl, rfl⟩
    · have HF : Hid (rdFlag (b :: bs) = none) := Lib.hid (by show (if b.toNat ≤ 1 then some (b.toNat == 1, 1) else none) = _; rw [if_neg h1])
      have h1' : (1 : Int) < (b.toNat : Int) := by omega
      go_enter Try.func42, Try.ntmps42
      go_wp2
      go_ret2
      rw [HF.out]
      exact ⟨rfl, rfl⟩

/-- What a reader tells of a first that it finds, what is left, and whether it has failed. -/
def stepR {α : Type} (z : α) (first : List UInt8 → Option (α × Nat)) (bs : List UInt8) (bad : Bool) : α × List UInt8 × Bool :=
  if bad then (z, bs, true) else match first bs with
    | none => (z, bs, true)
    | some (v, k) => (v, bs.drop k, false)
theorem rdFlag_size {bs : List UInt8} {v : Bool} {k : Nat} (h : rdFlag bs = some (v, k)) : 0 < k ∧ k ≤ bs.length := by
  rcases bs with _ | ⟨c, bs⟩
  · cases h
  · change (if c.toNat ≤ 1 then some (c.toNat == 1, 1) else none) = _ at h
    split at h
    · injection h with h; injection h with h1 h2; subst h2; simp
    · cases h
theorem rdText_some {bs : List UInt8} {v : List UInt8} {k : Nat} (h : rdText bs = some (v, k)) : ∃ j, rdNum bs = some (v.length, j) ∧ v.length ≤ 4096 ∧ k = j + v.length ∧ k ≤ bs.length ∧ 0 < j ∧ v = (bs.drop j).take v.length := by
  unfold rdText at h
  cases hn : rdNum bs with
  | none => rw [hn] at h; cases h
  | some p =>
    obtain ⟨n, j⟩ := p
    rw [hn] at h
    simp only [Option.bind_some] at h
    have hj := rdNum_some hn
    split at h
    · cases h
    · rename_i hc
      injection h with h
      injection h with h1 h2
      have hl : v.length = n := by rw [← h1, List.length_take, List.length_drop]; omega
      rw [hl]
      exact ⟨j, rfl, by omega, by omega, by omega, by omega, h1.symm⟩
theorem rdText_size {bs : List UInt8} {v : List UInt8} {k : Nat} (h : rdText bs = some (v, k)) : 0 < k ∧ k ≤ bs.length := by
  obtain ⟨j, _, _, h1, h2, h3, _⟩ := rdText_some h
  omega

theorem run_convert_byt {P : Program} {src dst e : TypeId} (hs : P.underlying src = some (.slice e)) (he : P.underlying e = some (.int .u8)) (hd : P.underlying dst = some .string) {w : World} {A : Option Addr} {ys : List UInt8} (n c : Nat) (hn : n = ys.length) (h : Byt w A ys) :
    (convert src dst (.slice A n c)).run P w = .ok (.string ⟨ys.toArray⟩) w := by
  subst hn
  rcases A with _ | ad
  · have : ys = [] := by
      cases ys with
      | nil => rfl
      | cons y ys => obtain ⟨_, _, h, _⟩ := h 0 (by simp); cases h
    subst this
    exact Lib.run_convert_nil_bytes w src dst e c hs he hd
  · refine run_convert_bytes_back w src dst e ad c ys hs he hd (fun j hj => ?_)
    obtain ⟨b, o, e, hc⟩ := h j hj
    injection e with e; subst e
    rw [add_off]; exact hc
theorem wpList_convert_byt {P : Program} {w : World} {ops : Array Oper} {rest : List Oper} {o : Oper} {a : Act} {Q : Exit → Act → World → Prop} (hgd : Region.wanted o (yielded ops a.tmps) = true) (x : Operand) (src dst e : TypeId) (ho : o.op = .convert src dst x)
    (hs : P.underlying src = some (.slice e)) (he : P.underlying e = some (.int .u8)) (hd : P.underlying dst = some .string) (A : Option Addr) (ys : List UInt8) (n c : Nat) (hx : a.eval x = .slice A n c) (hn : n = ys.length) (hy : Byt w A ys)
    (h : wpList P ops Q rest (a.put o.dst (.string ⟨ys.toArray⟩)) w) : wpList P ops Q (o :: rest) a w :=
  wpList_step fun K hK => by
    rw [if_pos hgd]
    unfold Oper.wp execOp
    simp only [ho, Sem.run_bind, Sem.run_pure, Result.andThen_ok, hx, run_convert_byt hs he hd n c hn hy]
    exact hK _ _ h

/-- A number that is not above a limit. -/
def rdUpTo (m : Nat) (bs : List UInt8) : Option (Nat × Nat) := (rdNum bs).bind fun p => if m < p.1 then none else some p
theorem rdUpTo_some {m : Nat} {bs : List UInt8} {v k : Nat} (h : rdUpTo m bs = some (v, k)) : rdNum bs = some (v, k) ∧ v ≤ m := by
  unfold rdUpTo at h
  cases hn : rdNum bs with
  | none => rw [hn] at h; cases h
  | some p =>
    obtain ⟨n, j⟩ := p
    rw [hn] at h
    simp only [Option.bind_some] at h
    split at h
    · cases h
    · rename_i hc
      injection h with h
      injection h with h1 h2
      subst h1; subst h2
      exact ⟨rfl, by omega⟩
theorem rdText_upTo (bs : List UInt8) : rdText bs = (rdUpTo 4096 bs).bind fun p => if bs.length - p.2 < p.1 then none else some ((bs.drop p.2).take p.1, p.2 + p.1) := by
  unfold rdText rdUpTo
  cases rdNum bs with
  | none => rfl
  | some p =>
    simp only [Option.bind_some]
    by_cases h : 4096 < p.1
    · rw [if_pos (Or.inl h), if_pos h]; rfl
    · rw [if_neg h, Option.bind_some]
      by_cases h2 : bs.length - p.2 < p.1
      · rw [if_pos (Or.inr h2), if_pos h2]
      · rw [if_neg (by omega), if_neg h2]
set_option maxHeartbeats 1000000 in
theorem firstUpTo_any (A : Option Addr) (bs : List UInt8) (c : Nat) (m : Nat) (w : World) (hy : Byt w A bs) (hm : bs.length ≤ maxLen) (hL : m < 18446744073709551616) :
    Calls Try.prog 50 #[.slice A bs.length c, .int .u64 (m : Int)] w fun e w' => e = .returned (numV (rdUpTo m bs)) ∧ w = w' := by
  cases h : rdNum bs with
  | none =>
    have HC : Hid (Calls Try.prog 40 #[.slice A bs.length c] w fun e w' => e = .returned (.tuple #[.int .u64 0, .int .i64 0]) ∧ w = w') := Lib.hid (by have := firstNumber_any A bs c w hy hm; rw [h] at this; exact this)
    have HU : Hid (rdUpTo m bs = none) := Lib.hid (by unfold rdUpTo; rw [h]; rfl)
    have h0 : (0 : Int) ≤ (m : Int) := by omega
    clear hy h
    go_enter Try.func50, Try.ntmps50
    go_wp2_with (go_at_call 40; with_reducible refine HC.out.mono ?_; rintro e w' ⟨rfl, rfl⟩)
    go_ret2
    rw [HU.out]
    exact ⟨rfl, rfl⟩
  | some p =>
    obtain ⟨n, j⟩ := p
    have HC : Hid (Calls Try.prog 40 #[.slice A bs.length c] w fun e w' => e = .returned (.tuple #[.int .u64 (n : Int), .int .i64 (j : Int)]) ∧ w = w') := Lib.hid (by have := firstNumber_any A bs c w hy hm; rw [h] at this; exact this)
    by_cases hc : m < n
    · have HU : Hid (rdUpTo m bs = none) := Lib.hid (by unfold rdUpTo; rw [h, Option.bind_some, if_pos hc])
      have h0 : (m : Int) < (n : Int) := by omega
      clear hy h hc
      go_enter Try.func50, Try.ntmps50
      go_wp2_with (go_at_call 40; with_reducible refine HC.out.mono ?_; rintro e w' ⟨rfl, rfl⟩)
      go_ret2
      rw [HU.out]
      exact ⟨rfl, rfl⟩
    · have HU : Hid (rdUpTo m bs = some (n, j)) := Lib.hid (by unfold rdUpTo; rw [h, Option.bind_some, if_neg hc])
      have h0 : (n : Int) ≤ (m : Int) := by omega
      clear hy h hc
      go_enter Try.func50, Try.ntmps50
      go_wp2_with (go_at_call 40; with_reducible refine HC.out.mono ?_; rintro e w' ⟨rfl, rfl⟩)
      go_ret2
      rw [HU.out]
      exact ⟨rfl, rfl⟩
/-- How many things a list has. -/
theorem firstCount_any (A : Option Addr) (bs : List UInt8) (c : Nat) (w : World) (hy : Byt w A bs) (hm : bs.length ≤ maxLen) :
    Calls Try.prog 47 #[.slice A bs.length c] w fun e w' => e = .returned (numV (rdUpTo 4096 bs)) ∧ w = w' := by
  cases hr : rdUpTo 4096 bs with
  | none =>
    have HC : Hid (Calls Try.prog 50 #[.slice A bs.length c, .int .u64 4096] w fun e w' => e = .returned (.tuple #[.int .u64 0, .int .i64 0]) ∧ w = w') := Lib.hid (by have := firstUpTo_any A bs c 4096 w hy hm (by omega); rw [hr] at this; exact this)
    clear hy hr
    go_enter Try.func47, Try.ntmps47
    go_wp2_with (go_at_call 50; with_reducible refine HC.out.mono ?_; rintro e w' ⟨rfl, rfl⟩)
    go_ret2
    exact ⟨rfl, rfl⟩
  | some p =>
    have HC : Hid (Calls Try.prog 50 #[.slice A bs.length c, .int .u64 4096] w fun e w' => e = .returned (.tuple #[.int .u64 (p.1 : Int), .int .i64 (p.2 : Int)]) ∧ w = w') := Lib.hid (by have := firstUpTo_any A bs c 4096 w hy hm (by omega); rw [hr] at this; exact this)
    clear hy hr
    go_enter Try.func47, Try.ntmps47
    go_wp2_with (go_at_call 50; with_reducible refine HC.out.mono ?_; rintro e w' ⟨rfl, rfl⟩)
    go_ret2
    exact ⟨rfl, rfl⟩

set_option maxHeartbeats 1000000 in
theorem firstText_none (A : Option Addr) (bs : List UInt8) (c : Nat) (w : World) (hy : Byt w A bs) (hm : bs.length ≤ maxLen) (h : rdUpTo 4096 bs = none) :
    Calls Try.prog 44 #[.slice A bs.length c] w fun e w' => e = .returned (textV none) ∧ w = w' := by
  have HC : Hid (Calls Try.prog 50 #[.slice A bs.length c, .int .u64 4096] w fun e w' => e = .returned (.tuple #[.int .u64 0, .int .i64 0]) ∧ w = w') := Lib.hid (by have := firstUpTo_any A bs c 4096 w hy hm (by omega); rw [h] at this; exact this)
  clear hy h
  go_enter Try.func44, Try.ntmps44
  go_wp2_with (go_at_call 50; with_reducible refine HC.out.mono ?_; rintro e w' ⟨rfl, rfl⟩)
  go_ret2
  exact ⟨rfl, rfl⟩
set_option maxHeartbeats 1000000 in
set_option maxRecDepth 20000 in
theorem firstText_some (A : Option Addr) (bs : List UInt8) (c : Nat) (w : World) (hy : Byt w A bs) (hm : bs.length ≤ maxLen) (hlc : bs.length ≤ c) (n j : Nat) (hu : rdUpTo 4096 bs = some (n, j)) :
    Calls Try.prog 44 #[.slice A bs.length c] w fun e w' => e = .returned (textV (rdText bs)) ∧ w = w' := by
  obtain ⟨h, h1⟩ := rdUpTo_some hu
  have hj := rdNum_some h
  have HC : Hid (Calls Try.prog 50 #[.slice A bs.length c, .int .u64 4096] w fun e w' => e = .returned (.tuple #[.int .u64 (n : Int), .int .i64 (j : Int)]) ∧ w = w') := Lib.hid (by have := firstUpTo_any A bs c 4096 w hy hm (by omega); rw [hu] at this; exact this)
  have HT : Hid (rdText bs = if bs.length - j < n then none else some ((bs.drop j).take n, j + n)) := Lib.hid (by rw [rdText_upTo, hu]; rfl)
  have HY := Lib.hid hy
  unfold maxLen at hm
  obtain ⟨hn, hj0, hj10, hjl, hjt⟩ := hj
  clear hjt
  have hj0' : ((j : Int) == 0) = false := by rw [beq_eq_false_iff_ne]; omega
  have hj1 : (0 : Int) < (j : Int) := by omega
  have hj2 : (j : Int) ≤ (bs.length : Int) := by omega
  obtain ⟨b, o, rfl, hcx⟩ := hy 0 (by omega)
  have h1' : (n : Int) ≤ 4096 := by omega
  clear hcx hy h hu
  by_cases h2 : bs.length - j < n
  · have h2' : (bs.length : Int) - (j : Int) < (n : Int) := by omega
    go_enter Try.func44, Try.ntmps44
    go_wp2_with (go_at_call 50; with_reducible refine HC.out.mono ?_; rintro e w' ⟨rfl, rfl⟩)
    go_ret2
    rw [HT.out, if_pos h2]
    exact ⟨rfl, rfl⟩
  · have h2' : (n : Int) ≤ (bs.length : Int) - (j : Int) := by omega
    have h3 : (j : Int) ≤ (j : Int) + (n : Int) := by omega
    have h4 : (j : Int) + (n : Int) ≤ (c : Int) := by omega
    have h5 : ((j : Int) + (n : Int)).toNat = j + n := by omega
    have h6 : j + n - j = n := by omega
    have HL : Hid (n = ((bs.drop j).take n).length) := Lib.hid (by rw [List.length_take, List.length_drop]; omega)
    by_cases hcj : c = j
    · subst hcj
      have hn0 : n = 0 := by omega
      have HYD : Hid (Byt w (some ⟨b, o, none⟩) ((bs.drop c).take n)) := Lib.hid (by rw [hn0]; exact Byt.nil _ _)
      clear hn0
      go_enter Try.func44, Try.ntmps44
      go_wp2_with (first | (go_at_call 50; with_reducible refine HC.out.mono ?_; rintro e w' ⟨rfl, rfl⟩) | (refine wpList_convert_byt (by rfl) (.tmp 30) 26 9 5 (by rfl) Try.underlying26 Try.underlying5 Try.underlying9 (some ⟨b, o, none⟩) ((bs.drop c).take n) n _ (by rfl) HL.out HYD.out ?_))
      go_ret2
      rw [HT.out, if_neg (by omega)]
      exact ⟨rfl, rfl⟩
    · have HYD : Hid (Byt w (some ⟨b, o + j, none⟩) ((bs.drop j).take n)) := Lib.hid ((HY.out.drop j).take n)
      go_enter Try.func44, Try.ntmps44
      go_wp2_with (first | (go_at_call 50; with_reducible refine HC.out.mono ?_; rintro e w' ⟨rfl, rfl⟩) | (refine wpList_convert_byt (by rfl) (.tmp 30) 26 9 5 (by rfl) Try.underlying26 Try.underlying5 Try.underlying9 (some ⟨b, o + j, none⟩) ((bs.drop j).take n) n _ (by rfl) HL.out HYD.out ?_))
      go_ret2
      rw [HT.out, if_neg (by omega)]
      exact ⟨rfl, rfl⟩
theorem firstText_any (A : Option Addr) (bs : List UInt8) (c : Nat) (w : World) (hy : Byt w A bs) (hm : bs.length ≤ maxLen) (hlc : bs.length ≤ c) :
    Calls Try.prog 44 #[.slice A bs.length c] w fun e w' => e = .returned (textV (rdText bs)) ∧ w = w' := by
  cases h : rdUpTo 4096 bs with
  | none => have : rdText bs = none := by rw [rdText_upTo, h]; rfl
            rw [this]; exact firstText_none A bs c w hy hm h
  | some p => exact firstText_some A bs c w hy hm hlc p.1 p.2 h
end Go.Proofs.Ytnphmejmcnihoaa
