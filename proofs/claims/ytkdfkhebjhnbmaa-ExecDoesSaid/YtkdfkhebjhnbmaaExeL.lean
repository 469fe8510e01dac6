/- Package queue: All's iterator, by the blocks that it writes. -/
import Derived.Test.YtkdfkhebjhnbmaaRoA
import Derived.Test.YtkdfkhebjhnbmaaQueV
import Derived.Test.YtkdfkhebjhnbmaaQueX
import Derived.Test.YtkdfkhebjhnbmaaExeB
import Derived.Test.YtkdfkhebjhnbmaaQueR
import Derived.Test.YtkdfkhebjhnbmaaRangeC
import Derived.TacticsInMore
import Derived.LoopNIn
import Derived.LoopIn
set_option linter.unusedSimpArgs false
set_option linter.unusedVariables false
namespace Go.Proofs.Ytkdfkhebjhnbmaa
open Go.ChangeShapes Go.WideShapes Go.ChangeAt Go.RowKit Go.Base Go.Que

def encT (t : Tm) : Array Value := #[.agg #[.int .i64 t.at_, .int .i64 t.id]]
def rowLen (lb : Nat) (W : World) : Nat := match W.cell? ⟨lb, 0, none⟩ with
  | some (.slice _ n _) => n
  | _ => 0
/-- A row of the iterator's own: the timers that are left. -/
def Left (B M lb : Nat) (rest : List Tm) (turns : Int) (W : World) : Prop := ∃ f, RW W (fun k => B ≤ k ∧ k < M) lb f rest.length turns ∧ Heap rest.length f ∧ Once rest.length f ∧ (∀ t, (∃ k, k < rest.length ∧ f k = t) ↔ t ∈ rest) ∧ rest.Pairwise lt
theorem Left.len {B M lb : Nat} {rest : List Tm} {turns : Int} {W : World} (h : Left B M lb rest turns W) : rowLen lb W = rest.length := by
  obtain ⟨f, ⟨A, c, hx, _⟩, _⟩ := h
  unfold rowLen
  rw [cell_of_row W lb 0 _ _ _ hx.self]; rfl
theorem Left.keep {B M lb : Nat} {rest : List Tm} {turns : Int} {W W' : World} (h : Left B M lb rest turns W) (hm : KeepC B M W W') : Left B M lb rest turns W' := by
  obtain ⟨f, hr, r⟩ := h
  exact ⟨f, hr.kept hm (fun k hk h => h hk), r⟩
theorem Left.later {B M lb : Nat} {rest : List Tm} {turns : Int} {W W' : World} (h : Left B M lb rest turns W) (hm : Below W.heap.size W W') : Left B M lb rest turns W' := by
  obtain ⟨f, hr, r⟩ := h
  exact ⟨f, hr.later hm, r⟩
/-- The next one is taken out. -/
def PopLeft (B M lb : Nat) (rest : List Tm) (turns : Int) (W : World) (e : Ending) (W' : World) : Prop :=
  (match rest with
  | [] => e = .returned (.tuple #[.agg #[.int .i64 0, .int .i64 0], .bool false])
  | t :: r => e = .returned (.tuple #[.agg #[.int .i64 t.at_, .int .i64 t.id], .bool true]) ∧ Left B M lb r turns W') ∧ Moved (fun k => B ≤ k ∧ k < M) W W'
theorem left_pop {B M lb : Nat} {rest : List Tm} {turns : Int} {W : World} (h : Left B M lb rest turns W) : Calls Try.prog 34 #[.iface 87 (.pointer (some ⟨lb, 0, none⟩)), .int .i64 9223372036854775807] W (PopLeft B M lb rest turns W) := by
  obtain ⟨f, hr, hh, ho, hs, ha⟩ := h
  refine (rPop_any hr hh 9223372036854775807).mono fun e W' hp => ?_
  obtain ⟨he, h1, h2, hm⟩ := hp
  refine ⟨?_, hm⟩
  cases rest with
  | nil => rw [he]; unfold dueV; rw [if_neg (by simp)]
  | cons t r =>
    obtain ⟨a1, a2⟩ := List.pairwise_cons.1 ha
    have hf0 : f 0 = t := by
      have hm0 := (hs (f 0)).1 ⟨0, by simp, rfl⟩
      rcases List.mem_cons.1 hm0 with e0 | e0
      · exact e0
      · obtain ⟨k, hk, hk2⟩ := (hs t).2 (List.mem_cons_self ..)
        have := heap_first hh k hk
        rw [hk2] at this
        exact absurd (a1 _ e0) this
    have hfit := hr.fits (k := 0) (by simp)
    rw [hf0] at hfit
    have hle : t.at_ ≤ 9223372036854775807 := by have := hfit.1; unfold tfit at hfit; omega
    obtain ⟨m, g, em, hq, hh2, hsh⟩ := h1 ⟨by simp, by rw [hf0]; exact hle⟩
    have em : m = r.length := by simp at em; omega
    subst em
    refine ⟨by rw [he]; unfold dueV; rw [if_pos ⟨by simp, by rw [hf0]; exact hle⟩, hf0], g, hq, hh2, ?_, fun u => ?_, a2⟩
    · intro i j hi hj e
      refine hsh.2 ho i j (by omega) (by omega) ?_
      unfold snoc
      rw [if_neg (by omega), if_neg (by omega)]
      exact e
    · rw [gone_ql hs ho (k := 0) (by simp) hsh u, hf0]
      constructor
      · rintro ⟨hu, hne⟩
        rcases List.mem_cons.1 hu with rfl | hu
        · exact absurd rfl hne
        · exact hu
      · intro hu
        refine ⟨List.mem_cons_of_mem _ hu, fun e => ?_⟩
        obtain ⟨k, hk, rfl⟩ := (hs u).2 (List.mem_cons_of_mem _ hu)
        have e0 : k = 0 := ho k 0 hk (by simp) (by rw [e, hf0])
        subst e0
        have h9 := a1 _ hu
        rw [hf0] at h9
        unfold lt at h9
        omega
theorem whenever_max : (9223372036854775807 : Int) = 9223372036854775807 := rfl
set_option maxHeartbeats 4000000 in
set_option maxRecDepth 20000 in
theorem iter_seqC (n : Nat) (hn : 1 ≤ n) {F : Nat → Prop} {g q nn : Nat} {S : Tm → Prop} {turns : Int} {α : Type} (τ : α → Tm) {L : List α} {w0 : World} (h : QF F w0 q S nn turns) (hL1 : nn = L.length) (hL2 : ∀ t, S t ↔ t ∈ L.map τ) (hL3 : (L.map τ).Pairwise lt) (hg : w0.cell? ⟨g, 0, none⟩ = some (.pointer (some ⟨q, 0, none⟩))) :
    SeqC Fence.wide n Try.prog 36 #[.pointer (some ⟨g, 0, none⟩)] (fun a => encT (τ a)) (fun xs => xs = L) (fun pre => pre <+: L) L.length w0 := fun l J Jx W hW hJ hJx hY h0 => by
  have hQ := h.later hW
  obtain ⟨⟨f, ⟨A, c, mb, D, hX⟩, hh, hs⟩, hB⟩ := hQ
  obtain ⟨c0, c1, c2⟩ := hX.cells
  have cg : W.cell? ⟨g, 0, none⟩ = some (.pointer (some ⟨q, 0, none⟩)) := cell_later hW hg
  have HX := Lib.hid hX
  have HHp := Lib.hid hh
  have HSs := Lib.hid hs
  have HYy := Lib.hid hY
  have HJ0 := Lib.hid h0
  have HJJ := Lib.hid hJ
  have HJX := Lib.hid hJx
  have HLn := Lib.hid hL1
  have HLm := Lib.hid hL2
  have HLa := Lib.hid hL3
  clear h hL1 hL2 hL3 hX hh hs hY h0 hJ hJx hW hg hB
  refine callsIn_of_wp Try.func36 rfl trivial ?_ rfl
  simp only [Try.ntmps36, List.size_toArray, List.length_cons, List.length_nil, Nat.reduceAdd, Nat.reduceSub, Array.replicate_succ, Array.replicate_zero, List.push_toArray, List.append_toArray, List.nil_append, List.cons_append]
  have HCl := Lib.hid (qclosed_any (⟨A, c, mb, D, HX.out⟩ : Que W F q f nn turns))
  obtain ⟨xs, hxs⟩ : ∃ xs, W.ownsRow 0 82 3 (.slice A nn c) nn xs ∧ Tms xs nn f := HX.out.row.own
  have HXs := Lib.hid hxs
  have HCo := Lib.hid (rclone_any hxs.1 hxs.2 HX.out.row.few)
  clear hxs
  gi_wp2_with (first
    | (refine ⟨trivial, ?_⟩; gi_at_call 30; refine (callsIn_wide.2 HCl.out).mono ?_; rintro e w1 ⟨rfl, rfl⟩)
    | (refine ⟨trivial, ?_⟩; gi_at_call 37; refine (callsIn_wide.2 HCo.out).mono ?_; rintro e w1 ⟨A1, d1, rfl, ho1, hb1⟩; have HO1 := Lib.hid ho1; have HB1 := Lib.hid hb1; clear ho1 hb1))
  obtain ⟨lb, hlb⟩ : ∃ lb, lb = w1.heap.size := ⟨_, rfl⟩
  have HLb := Lib.hid hlb
  have HL0 : Hid (Left W.heap.size (lb + 1) lb (L.map τ) turns (w1.alloc (.cells #[.slice A1 nn d1] 74))) := Lib.hid (by
    unfold Left
    rw [List.length_map, ← HLn.out]
    refine ⟨f, ⟨A1, d1, ⟨?_, ⟨xs, own_wide2 (own_moved (p := fun _ => False) HO1.out (Below.movedNew (below_alloc w1 _)) (fun _ _ h => h)) (Nat.zero_le _), HXs.out.2⟩, by decide, HX.out.row.few⟩, ?_, ?_, ?_⟩, ?_, ?_, ?_, HLa.out⟩
    · rw [HLb.out]; exact heap_new w1 _
    · refine ⟨?_, Nat.lt_succ_self _⟩
      rw [HLb.out]; exact HB1.out.size
    · exact fun k hk => ⟨(HO1.out.lt k hk).1, by have := (HO1.out.lt k hk).2; rw [HLb.out]; omega⟩
    · exact HX.out.fit
    · exact HHp.out
    · exact Que.once (⟨A, c, mb, D, HX.out⟩ : Que W F q f nn turns)
    · exact fun t => (HSs.out t).trans (HLm.out t))
  have HJ1 : Hid (J (lb + 1) [] (w1.alloc (.cells #[.slice A1 nn d1] 74))) := Lib.hid (by
    have h9 := HJ0.out _ (HB1.out.alloc HB1.out.size (.cells #[.slice A1 nn d1] 74))
    rw [size_alloc, ← HLb.out] at h9
    exact h9)
  have hsz : W.heap.size ≤ lb := by rw [hlb]; exact HB1.out.size
  rw [← hlb]
  clear hlb c0 c1 c2 cg
  gi_loopw [5] (fun _ wr => ∃ pre rest, L = pre ++ rest ∧ Left W.heap.size (lb + 1) lb (rest.map τ) turns wr ∧ J (lb + 1) pre wr ∧ lb + 1 ≤ wr.heap.size) (fun _ wr => rowLen lb wr)
  case atStart => exact ⟨[], L, rfl, HL0.out, HJ1.out, by rw [size_alloc, ← HLb.out]; exact Nat.le_refl _⟩
  case round =>
    obtain ⟨pre, rest, hpr, hLe, hJp, hzw⟩ := hrel
    have HM0 := Lib.hid (hLe.len.trans (List.length_map ..))
    have HPo := Lib.hid (left_pop hLe)
    have HJp := Lib.hid hJp
    have HPR := Lib.hid hpr
    clear hpr hLe hJp
    cases rest with
    | nil =>
      gi_wp2_with (refine ⟨trivial, ?_⟩; gi_at_call 34; refine (callsIn_wide.2 HPo.out).mono ?_; rintro e w2 ⟨rfl, hm2⟩; have HM2 := Lib.hid hm2; clear hm2)
      refine ⟨fun f hf => (by cases hf), ?_⟩
      gi_wp2
      refine bodyPost_ret (results_none rfl _ _ _) rfl ?_
      refine ⟨⟨_, rfl⟩, .inl ⟨lb + 1, pre, by omega, by rw [HPR.out, List.append_nil], ?_⟩⟩
      exact HJJ.out _ _ _ _ HJp.out (HM2.out.alloc _)
    | cons t r =>
      have hzl : Hid (W.heap.size ≤ lb + 1) := Lib.hid (by omega)
      have HLen : Hid (pre.length < L.length) := Lib.hid (by rw [HPR.out]; simp)
      gi_wp2_with (refine ⟨trivial, ?_⟩; gi_at_call 34; refine (callsIn_wide.2 HPo.out).mono ?_; rintro e w2 ⟨⟨rfl, hl2⟩, hm2⟩; have HM2 := Lib.hid hm2; have HL2 := Lib.hid (hl2.later (below_alloc w2 (.cells #[.int .i64 (τ t).at_, .int .i64 (τ t).id] 65))); have hJ2 := HJJ.out _ _ _ _ HJp.out (hm2.alloc (.cells #[.int .i64 (τ t).at_, .int .i64 (τ t).id] 65)); obtain ⟨fn, tmps, assign, body, hy, hR⟩ := HYy.out (lb + 1) pre t _ hzl.out (by have := hm2.size; simp; omega) hJ2 HLen.out; have HR := Lib.hid hR; simp only [encT] at hy; clear hm2 hl2 hJ2 hR)
      refine HR.out.mono ?_
      rintro e W3 (⟨rfl, hJ3, hk3⟩ | ⟨rfl, hJx3⟩)
      · have HL3 := Lib.hid (HL2.out.keep hk3)
        have HJ3 := Lib.hid hJ3
        have HZ3 : Hid (lb + 1 ≤ W3.heap.size) := Lib.hid (by have h1 := hk3.size; have h2 := HM2.out.size; simp at h1; omega)
        clear hJ3 hk3
        gi_wp2
        refine ⟨⟨_, _, _, _, _, _, _, _, _, _, _, _, _, _, _, ⟨pre ++ [t], r, by rw [HPR.out, List.append_assoc]; rfl, HL3.out, HJ3.out, HZ3.out⟩, rfl⟩, ?_⟩
        rw [HL3.out.len, HM0.out, List.length_cons, List.length_map]
        omega
      · have HJ3 := Lib.hid hJx3
        clear hJx3
        gi_wp2
        refine bodyPost_ret (results_none rfl _ _ _) rfl ?_
        exact ⟨⟨_, rfl⟩, .inr ⟨lb + 1, pre ++ [t], hzl.out, by rw [HPR.out]; exact ⟨r, by simp⟩, HJ3.out⟩⟩
end Go.Proofs.Ytkdfkhebjhnbmaa
