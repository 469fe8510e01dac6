/- Package net: Send, Again. -/
import Derived.Test.YtbmadhmcnjcdfaaNetE
set_option linter.unusedSimpArgs false
set_option linter.unusedVariables false
namespace Go.Proofs.Ytbmadhmcnjcdfaa
open Go.ChangeShapes Go.WideShapes Go.ChangeAt Go.RowKit Go.Base Go.Net

section
variable {T : TypeId} {F G : Nat → Prop} {w w1 w' : World} {p : Nat} {s : St} {A : Option Addr} {c : Nat} {vs : List PkV} {x : PkV}
theorem OpN.from {v : Value} {s2 : St} {e : Ending} (h : OpN T F p s2 v w1 e w') (hb : Below w.heap.size w w1) : OpN T F p s2 v w e w' :=
  ⟨h.1, h.2.1.wide (fun k hk => hk.imp id (fun h => Nat.le_trans hb.size h)), (Below.movedNew hb).trans h.2.2 (fun _ _ h => h)⟩
theorem NetX.same (h : NetX T w F p s A c vs) : NT T (fun k => F k ∨ w.heap.size ≤ k) w p s := ⟨A, c, vs, h.wide (fun k h => .inl h)⟩
theorem NetX.stay (h : NetX T w F p s A c vs) (hb : Below w.heap.size w w1) : NT T (fun k => F k ∨ w.heap.size ≤ k) w1 p s := ⟨A, c, vs, (h.later hb).wide (fun k h => .inl h)⟩
set_option maxHeartbeats 2000000 in
theorem send_any (h : NetX T w F p s A c vs) (fr dst : Int) (A0 : Option Addr) (b : List UInt8) (c0 : Nat) (hy : Byt w A0 b) (hm : b.length ≤ 9223372036854775807) (hk1 : s.last + 1 ≤ 9223372036854775807) (hk2 : s.lost + 1 ≤ 9223372036854775807) :
    Calls Try.prog 10 #[.pointer (some ⟨p, 0, none⟩), .int .i64 fr, .int .i64 dst, .slice A0 b.length c0] w
      (OpN T F p (sendS s fr dst b).2 (.tuple #[.int .i64 (sendS s fr dst b).1.1, .int .i64 (sendS s fr dst b).1.2]) w) := by
  have HC := Lib.hid (closed_any h)
  have HPl := Lib.hid (places_any h fr dst)
  have HX := Lib.hid h
  by_cases hP : isP s fr ∧ isP s dst
  · have hab : areB s fr dst = true := decide_eq_true hP
    by_cases hL : 32832 < b.length
    · have hL' : (32832 : Int) < (b.length : Int) := by omega
      have HE : Hid (sendS s fr dst b = ((0, 3), s)) := Lib.hid (by unfold sendS; rw [if_neg (fun h => h hP), if_pos hL])
      rw [hab] at HPl
      clear h hP hab hk1 hk2 hy
      go_enter Try.func10, Try.ntmps10
      go_wp2_with (first
        | (go_at_call 26; refine Calls.mono HC.out ?_; rintro e w1 ⟨rfl, rfl⟩)
        | (go_at_call 27; refine Calls.mono HPl.out ?_; rintro e w1 ⟨rfl, rfl⟩))
      go_ret2
      rw [HE.out]
      exact ⟨rfl, HX.out.same, Moved.refl _ _⟩
    · have hL' : ¬ (32832 : Int) < (b.length : Int) := by omega
      have HAd := Lib.hid (add_any h 0 fr dst A0 b c0 hy (by omega) hk1 hk2)
      have HE : Hid (sendS s fr dst b = addS s fr dst b) := Lib.hid (by unfold sendS; rw [if_neg (fun h => h hP), if_neg hL])
      rw [hab] at HPl
      clear h hP hab hk1 hk2 hy
      go_enter Try.func10, Try.ntmps10
      go_wp2_with (first
        | (go_at_call 26; refine Calls.mono HC.out ?_; rintro e w1 ⟨rfl, rfl⟩)
        | (go_at_call 27; refine Calls.mono HPl.out ?_; rintro e w1 ⟨rfl, rfl⟩)
        | (go_at_call 28; refine Calls.mono HAd.out ?_; rintro e w1 ⟨rfl, ho1, hm1⟩; have HO := Lib.hid ho1; have HM := Lib.hid hm1; clear ho1 hm1))
      go_ret2
      rw [HE.out]
      exact ⟨rfl, HO.out, HM.out⟩
  · have hab : areB s fr dst = false := decide_eq_false hP
    have HE : Hid (sendS s fr dst b = ((0, 1), s)) := Lib.hid (by unfold sendS; rw [if_pos hP])
    rw [hab] at HPl
    clear h hP hab hk1 hk2 hy
    go_enter Try.func10, Try.ntmps10
    go_wp2_with (first
      | (go_at_call 26; refine Calls.mono HC.out ?_; rintro e w1 ⟨rfl, rfl⟩)
      | (go_at_call 27; refine Calls.mono HPl.out ?_; rintro e w1 ⟨rfl, rfl⟩))
    go_ret2
    rw [HE.out]
    exact ⟨rfl, HX.out.same, Moved.refl _ _⟩
set_option maxHeartbeats 2000000 in
theorem again_any (h : NetX T w F p s A c vs) (i : Int) (hk1 : s.last + 1 ≤ 9223372036854775807) (hk2 : s.lost + 1 ≤ 9223372036854775807) :
    Calls Try.prog 17 #[.pointer (some ⟨p, 0, none⟩), .int .i64 i] w
      (OpN T F p (againS s i).2 (.tuple #[.int .i64 (againS s i).1.1, .int .i64 (againS s i).1.2]) w) := by
  have HFd := Lib.hid (find_any h i)
  have HX := Lib.hid h
  have hlen := h.len
  have hfew := h.few
  by_cases hI : idx s.l i < s.l.length
  · obtain ⟨k, hk⟩ : ∃ k, k = idx s.l i := ⟨_, rfl⟩
    rw [← hk] at hI
    have hkv : k < vs.length := by omega
    have he : vs[k].p = s.l[k] := by simp only [← h.is, List.getElem_map]
    have HE : Hid (againS s i = addS s vs[k].p.fr vs[k].p.dst vs[k].p.body) := Lib.hid (by
      unfold againS; subst hk; rw [dif_pos hI, he])
    have HFd2 : Hid (Calls Try.prog 31 #[.pointer (some ⟨p, 0, none⟩), .int .i64 i] w fun e w1 => e = .returned (.tuple #[.int .i64 (k : Int), .int .i64 0]) ∧ Below w.heap.size w w1) := Lib.hid (HFd.out.mono fun e w1 ⟨hb, hr⟩ => by
      rw [if_pos (hk ▸ hI), ← hk] at hr; exact ⟨hr, hb⟩)
    have HAt := Lib.hid (fun V (hV : Below w.heap.size w V) => rowP_at (h.later hV).row hkv)
    have HAd := Lib.hid (fun V (hV : Below w.heap.size w V) => add_any (h.later hV) vs[k].p.id vs[k].p.fr vs[k].p.dst vs[k].A vs[k].p.body vs[k].c ((h.later hV).bod vs[k] (List.getElem_mem _)).byt (by have := (h.good.bod s.l[k] (List.getElem_mem _)); rw [he]; exact this) hk1 hk2)
    have HCl := Lib.hid (fun V (hV : Below w.heap.size w V) => (h.later hV).cells)
    have hkn : (k : Int) < (vs.length : Int) := by omega
    have hk0 : (0 : Int) ≤ (k : Int) := by omega
    obtain ⟨z, hz⟩ : ∃ z, z = vs[k] := ⟨_, rfl⟩
    rw [← hz] at HE HAd
    obtain ⟨g, rfl⟩ : ∃ g, A = some ⟨g, 0, none⟩ := by obtain ⟨g, e, _⟩ := HAt.out w (Below.refl _ _); exact ⟨g, e⟩
    have HAt2 : Hid (∀ V, Below w.heap.size w V → V.cell? ⟨g, k * 4, none⟩ = some (.int .i64 z.p.id) ∧ V.cell? ⟨g, k * 4 + 1, none⟩ = some (.int .i64 z.p.fr) ∧ V.cell? ⟨g, k * 4 + 2, none⟩ = some (.int .i64 z.p.dst) ∧ V.cell? ⟨g, k * 4 + 3, none⟩ = some (.slice z.A z.p.body.length z.c)) := Lib.hid (fun V hV => by
      obtain ⟨g', e, h1⟩ := HAt.out V hV
      injection e with e; injection e with e; subst e
      rw [← hz] at h1
      exact h1)
    clear h hk he hz hI hlen HAt HFd hk1 hk2
    obtain ⟨n, hn⟩ : ∃ n, n = vs.length := ⟨_, rfl⟩
    rw [← hn] at hkn hfew HCl
    clear hn hkv
    go_enter Try.func17, Try.ntmps17
    go_wp2_with (first
      | (go_at_call 31; refine Calls.mono HFd2.out ?_; rintro e w1 ⟨rfl, hb⟩; have HB := Lib.hid hb; obtain ⟨c0, c1, c2, c3⟩ := HCl.out w1 hb; obtain ⟨r0, r1, r2, r3⟩ := HAt2.out w1 hb; clear hb)
      | (go_at_call 28; refine Calls.mono (HAd.out w1 HB.out) ?_; rintro e w2 ⟨rfl, ho1, hm1⟩; have HO := Lib.hid ho1; have HM := Lib.hid hm1; clear ho1 hm1))
    go_ret2
    rw [HE.out]
    exact OpN.from ⟨rfl, HO.out, HM.out⟩ HB.out
  · have HE : Hid (againS s i = ((0, 4), s)) := Lib.hid (by unfold againS; rw [dif_neg hI])
    have HFd2 : Hid (Calls Try.prog 31 #[.pointer (some ⟨p, 0, none⟩), .int .i64 i] w fun e w1 => e = .returned (.tuple #[.int .i64 0, .int .i64 4]) ∧ Below w.heap.size w w1) := Lib.hid (HFd.out.mono fun e w1 ⟨hb, hr⟩ => by
      rw [if_neg hI] at hr; exact ⟨hr, hb⟩)
    clear h hI hlen HFd hk1 hk2
    go_enter Try.func17, Try.ntmps17
    go_wp2_with (go_at_call 31; refine Calls.mono HFd2.out ?_; rintro e w1 ⟨rfl, hb⟩; have HB := Lib.hid hb; clear hb)
    go_ret2
    rw [HE.out]
    exact ⟨rfl, HX.out.stay HB.out, Below.movedNew HB.out⟩
end
end Go.Proofs.Ytbmadhmcnjcdfaa
