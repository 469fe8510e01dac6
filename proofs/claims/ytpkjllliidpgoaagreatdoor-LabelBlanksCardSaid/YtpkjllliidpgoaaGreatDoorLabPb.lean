/- Walks of package label's laws and reference: Same of clauses that are the same; Print. -/
import Derived.Test.YtpkjllliidpgoaaGreatDoorLabPa
import Derived.Test.YtpkjllliidpgoaaGreatDoorLabX
set_option linter.unusedSimpArgs false
set_option linter.unusedVariables false
namespace Go.Proofs.YtpkjllliidpgoaaGreatDoor
open Go.ChangeShapes Go.WideShapes Go.ChangeAt Go.RowKit Go.Base Go.Lab

set_option maxHeartbeats 4000000 in
theorem same_true (A B : Option Addr) (cs ds : List Cl) (n c d : Nat) (w : World) (hC : Cls w A cs) (hD : Cls w B ds) (hcn : cs.length = n) (h : cs.map pcOf = ds.map pcOf) (hm : n ≤ maxLen) :
    Calls Tryz.prog 21 #[.slice A n c, .slice B n d] w fun e w' => e = .returned (.bool true) ∧ Below w.heap.size w w' := by
  have HC := Lib.hid hC
  have HD := Lib.hid hD
  have hdn : ds.length = n := by have := congrArg List.length h; simpa [hcn] using this.symm
  have HE : Hid (∀ i (h1 : i < cs.length) (h2 : i < ds.length), pcOf cs[i] = pcOf ds[i]) := Lib.hid (fun i h1 h2 => by
    have e := congrArg (fun l => l[i]?) h
    simpa [List.getElem?_eq_getElem, h1, h2] using e)
  have HN := Lib.hid (And.intro hcn hdn)
  unfold maxLen at hm
  have hm' : (n : Int) ≤ 9223372036854775807 := by omega
  clear hC hD h hcn hdn hm
  go_enter Tryz.func21, Tryz.ntmps21
  go_wp2
  go_loopw [5] (fun i wr => ∃ k : Nat, k ≤ n ∧ i = .int .i64 (k : Int) ∧ Hid (Below w.heap.size w wr)) (fun i _ => n - (intOf i).toNat)
  case atStart => exact ⟨0, Nat.zero_le _, rfl, Lib.hid (Below.refl _ _)⟩
  case round =>
    obtain ⟨k, hk, rfl, HB1⟩ := hrel
    by_cases hlt : k < n
    · have hlt' : (k : Int) < (n : Int) := by omega
      have hk0 : (0 : Int) ≤ (k : Int) := by omega
      have hc1 : k < cs.length := by have := HN.out.1; omega
      have hd1 : k < ds.length := by have := HN.out.2; omega
      obtain ⟨b, o, rfl, c0, c1, c2, hf⟩ := (HC.out.later HB1.out) k hc1
      obtain ⟨b', o', rfl, d0, d1, d2, hg⟩ := (HD.out.later HB1.out) k hd1
      have hE := HE.out k hc1 hd1
      have HF := Lib.hid hf
      have HG := Lib.hid hg
      clear hf hg
      generalize cs[k] = x at *
      generalize ds[k] = y at *
      clear hc1 hd1
      obtain ⟨kind, key, la, vals, lc⟩ := x
      obtain ⟨kind', key', la', vals', lc'⟩ := y
      unfold pcOf at hE
      simp only [Prod.mk.injEq] at hE
      obtain ⟨rfl, rfl, rfl⟩ := hE
      simp only at c0 c1 c2 d0 d1 d2
      have HV := Lib.hid HF.out.v
      have HV' := Lib.hid HG.out.v
      have hvm := HF.out.m
      unfold maxLen at hvm
      have hvm' : (vals.length : Int) ≤ 9223372036854775807 := by simp only at hvm; omega
      clear hvm HF HG
      go_wp2_with fail
      go_quiet (fail)
      go_wp2
      go_loopw [6] (fun j wq => ∃ t : Nat, t ≤ vals.length ∧ j = .int .i64 (t : Int) ∧ Hid (Below wr.heap.size wr wq)) (fun j _ => vals.length - (intOf j).toNat)
      case atStart => exact ⟨0, Nat.zero_le _, rfl, Lib.hid (below_drewN (Below.refl _ _) _)⟩
      case round =>
        obtain ⟨t, ht, rfl, HB2⟩ := hrel
        have c2q := cell_later HB2.out c2
        have d2q := cell_later HB2.out d2
        by_cases htl : t < vals.length
        · have htl' : (t : Int) < (vals.length : Int) := by omega
          have ht0 : (0 : Int) ≤ (t : Int) := by omega
          obtain ⟨g, p, e1, v1, _⟩ := (HV.out.later HB2.out) t htl
          obtain ⟨g', p', e2, v2, _⟩ := (HV'.out.later HB2.out) t htl
          subst e1
          subst e2
          generalize vals[t] = z at *
          go_wp2_with fail
          go_quiet (fail)
          go_wp2
          go_roundw
          case rel => exact ⟨t + 1, by omega, by go_num, Lib.hid (below_drewN HB2.out _)⟩
          case measure => simp [intOf]; omega
        · obtain rfl : t = vals.length := by omega
          go_wp2
          go_roundw
          case rel => exact ⟨k + 1, by omega, by go_num, Lib.hid (HB1.out.trans (HB2.out.mono HB1.out.size))⟩
          case measure => simp [intOf]; omega
    · obtain rfl : k = n := by omega
      go_wp2
      go_ret
      exact ⟨rfl, HB1.out⟩

theorem join_succ {l : List Bytes} {k : Nat} (hk : k < l.length) (h0 : 0 < k) : Lib.join (l.take (k + 1)) [44] = Lib.join (l.take k) [44] ++ [44] ++ l[k] := by
  rw [List.take_succ_eq_append_getElem hk]
  have hne : l.take k ≠ [] := by intro e; rw [List.take_eq_nil_iff] at e; rcases e with e | e; omega; subst e; simp at hk
  generalize l.take k = xs at hne
  generalize l[k] = y
  induction xs with
  | nil => exact absurd rfl hne
  | cons x xs ih =>
    cases xs with
    | nil => rw [Lib.join_one]; show Lib.join [x, y] [44] = _; rw [join_two, Lib.join_one]; simp
    | cons x' xs =>
      have := ih (by simp)
      rw [List.cons_append, List.cons_append, join_two, join_two]
      rw [List.cons_append] at this
      rw [this]; simp
theorem join_lens {l : List Bytes} {n : Nat} (h : ∀ x ∈ l, x.length ≤ n) : (Lib.join l [44]).length ≤ (n + 1) * l.length := by
  induction l with
  | nil => simp [Lib.join_nil]
  | cons x r ih =>
    have hx := h x (by simp)
    have ihr := ih (fun y hy => h y (by simp [hy]))
    cases r with
    | nil => rw [Lib.join_one]; simp; omega
    | cons y r =>
      rw [join_two, List.length_append, List.length_cons, List.length_cons, Nat.mul_succ]
      omega
theorem printB_no {cs : List Cl} {x : Cl} (hx : x ∈ cs) (h : rightB x = false) : printB cs = [] := by
  unfold printB
  rw [List.all_eq_false.2 ⟨x, hx, by rw [h]; decide⟩]; simp
theorem printB_yes {cs : List Cl} (h : cs.length ≤ 16) (hr : ∀ x ∈ cs, rightB x = true) : printB cs = Lib.join (cs.map clTx) [44] := by
  unfold printB
  rw [List.all_eq_true.2 hr]; simp [h]
end Go.Proofs.YtpkjllliidpgoaaGreatDoor
