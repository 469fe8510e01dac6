/- Walks of package pack: lists of texts are read. -/
import Derived.Test.YtnphmejmcnihoaaPakP
set_option linter.unusedSimpArgs false
set_option linter.unusedVariables false
namespace Go.Proofs.Ytnphmejmcnihoaa
open Go.ChangeShapes Go.WideShapes Go.ChangeAt Go.RowKit Go.Base Go.Pk

theorem gcatch_str (p q : Addr) (w : World) :
    CallsD Try.prog 49 #[.pointer (some p), .pointer (some q)] .returning w fun e u' w' => e = .returned (.tuple #[]) ∧ u' = .returning ∧ w' = w := by
  refine callsD_of_wpS Try.func49 rfl fun c₀ cs hu => ?_
  apply wpS_seq
  apply wpS_region
  simp [wpOpsS, go_sem, recoverD, hu, Try.ntmps49, Exit.thenS]
  refine wpS_cond (t := false) (by simp [Act.eval, Array.replicate]) ?_
  simp only [Bool.false_eq_true, if_false]
  refine wpS_of_wp (wp_skip ?_)
  cases c₀
  simp_all [bodyPostS, results, Try.results49]

/-- Texts, one behind the other. -/
def textsB (l : List (List UInt8)) : List UInt8 := (l.map textB).flatten
theorem textsB_drop (l : List (List UInt8)) (k : Nat) (hk : k < l.length) : textsB (l.drop k) = textB l[k] ++ textsB (l.drop (k + 1)) := by
  unfold textsB
  rw [List.drop_eq_getElem_cons hk, List.map_cons, List.flatten_cons]
theorem putTexts_none : ∀ l : List (List UInt8), putTexts none l = none
  | [] => rfl
  | x :: l => by
    unfold putTexts
    rw [List.foldl_cons]
    have : putText none x = none := by unfold putText; split <;> rfl
    rw [this]
    exact putTexts_none l
theorem putTexts_some : ∀ (l : List (List UInt8)) (s : Option (List UInt8)) (bs : List UInt8), putTexts s l = some bs → ∃ xs, s = some xs ∧ bs = xs ++ textsB l ∧ ∀ x ∈ l, x.length ≤ 4096
  | [], s, bs, h => ⟨bs, h, by simp [textsB], by simp⟩
  | x :: l, s, bs, h => by
    unfold putTexts at h
    rw [List.foldl_cons] at h
    obtain ⟨xs, h1, h2, h3⟩ := putTexts_some l _ bs h
    rcases s with _ | ys
    · have : putText none x = none := by unfold putText; split <;> rfl
      rw [this] at h1; cases h1
    · unfold putText at h1
      split at h1
      · cases h1
      · rename_i hx
        have hp : putB (some ys) (numB x.length) = none ∨ putB (some ys) (numB x.length) = some (ys ++ numB x.length) := by
          by_cases hf : ys.length + (numB x.length).length ≤ 65536
          · exact .inr (putB_fit hf)
          · exact .inl (putB_not hf)
        rcases hp with hp | hp
        · rw [hp] at h1; cases h1
        · rw [hp] at h1
          have hq : xs = ys ++ numB x.length ++ x := by
            by_cases hf : (ys ++ numB x.length).length + x.length ≤ 65536
            · rw [putB_fit hf] at h1; injection h1 with h1; exact h1.symm
            · rw [putB_not hf] at h1; cases h1
          refine ⟨ys, rfl, ?_, ?_⟩
          · rw [h2, hq]
            simp [textsB, textB]
          · intro z hz
            simp only [List.mem_cons] at hz
            rcases hz with rfl | hz
            · omega
            · exact h3 z hz
/-- What a list is packed to, where it could be packed. -/
theorem putListT_some {l : List (List UInt8)} {bs : List UInt8} (h : putListT (some []) l = some bs) : l.length ≤ 4096 ∧ (∀ x ∈ l, x.length ≤ 4096) ∧ bs = numB l.length ++ textsB l := by
  unfold putListT at h
  split at h
  · cases h
  · rename_i h4
    obtain ⟨xs, h1, h2, h3⟩ := putTexts_some l _ bs h
    rw [putB_fit (by have := numB_ten (n := l.length) (by omega); simp; omega)] at h1
    injection h1 with h1
    rw [List.nil_append] at h1
    exact ⟨by omega, h3, by rw [h2, ← h1]⟩
theorem rdUpTo_list (n : Nat) (rest : List UInt8) (h : n ≤ 4096) : stepR 0 (rdUpTo 4096) (numB n ++ rest) false = (n, rest, false) := by
  have e := rdNum_numB n rest (by omega)
  have e2 : rdUpTo 4096 (numB n ++ rest) = some (n, (numB n).length) := by
    unfold rdUpTo; rw [e, Option.bind_some, if_neg (by omega)]
  unfold stepR
  rw [e2]
  simp

def strV (x : List UInt8) : Value := .string ⟨x.toArray⟩
theorem owns_slice' {w : World} {base : Nat} {e : TypeId} {v : Value} {n : Nat} {xs : List Value} (h : w.ownsRow base e 1 v n xs) : ∃ a c, v = .slice a n c := by
  rcases h.2 with ⟨rfl, rfl⟩ | ⟨g, cap, cur, rfl, _⟩
  · exact ⟨none, 0, rfl⟩
  · exact ⟨_, _, rfl⟩
/-- The rounds of a list that is read. -/
def GetRel (w : World) (R : Nat) (row : Option Nat) (l : List (List UInt8)) (rest : List UInt8) (k : Nat) (wr : World) : Prop :=
  ∃ A c, wr.heap[w.heap.size]? = some (.cells #[.pointer (some ⟨R, 0, none⟩)] 46 (0, 0)) ∧ wr.heap[w.heap.size + 1]? = some (.cells #[.slice A k c] 57 (0, 0)) ∧
    wr.ownsRow (w.heap.size + 2) 9 1 (.slice A k c) k ((l.take k).map strV) ∧ Rdr wr R row (textsB (l.drop k) ++ rest) false ∧ Moved (fun j => j = R) w wr

def GetPost (w : World) (R : Nat) (row : Option Nat) (l : List (List UInt8)) (rest : List UInt8) (e : Ending) (w' : World) : Prop :=
  ∃ A c, e = .returned (.slice A l.length c) ∧ w'.ownsRow (w.heap.size + 2) 9 1 (.slice A l.length c) l.length (l.map strV) ∧ RdrPost w R row rest false w'
set_option maxHeartbeats 4000000 in
theorem getList_str (R : Nat) (row : Option Nat) (l : List (List UInt8)) (rest : List UInt8) (w : World) (h : Rdr w R row (numB l.length ++ (textsB l ++ rest)) false) (hl : l.length ≤ 4096) (hx : ∀ x ∈ l, x.length ≤ 4096) (hr : ∀ k, row = some k → k < w.heap.size) :
    Calls Try.prog 33 #[.pointer (some ⟨R, 0, none⟩), .func (.func 27) #[] #[]] w (GetPost w R row l rest) := by
  have hmf : ∀ (fn : Fn) (first cap : Array Value) (w : World), (Instr.makeFunc fn first cap).run Try.prog w = .ok (.func fn first cap) w := fun _ _ _ _ => rfl
  have HP := Lib.hid h
  have HR := Lib.hid hr
  have HX := Lib.hid hx
  have HC := Lib.hid (rdUpTo_list l.length (textsB l ++ rest) hl)
  have hl' : (l.length : Int) ≤ 4096 := by omega
  have hR : R < w.heap.size := by obtain ⟨_, _, hb, _⟩ := h; exact heap_lt hb
  have HLT := Lib.hid hR
  have HN0 : Hid (w.heap.size ≠ R) := Lib.hid (by omega)
  have HN1 : Hid (w.heap.size + 1 ≠ R) := Lib.hid (by omega)
  obtain ⟨i0, hinfo, hz0, hz1, hz2⟩ := info_parts (P := Try.prog) (e := 9) (z := .string ⟨#[]⟩) (size := 1) (bytes := 16) (by kernel_rfl)
  clear h hr hx hR
  have HB0 : Hid (Below w.heap.size w ((w.alloc (.cells #[.pointer (some ⟨R, 0, none⟩)] 46)).alloc (.cells #[.slice none 0 0] 57))) := Lib.hid ((below_alloc w _).alloc (by simp) _)
  go_enter_defers Try.func33, Try.ntmps33
  go_wp2_with (go_at_call 39; refine (next_count R row _ false _ (HP.out.later HB0.out)).mono ?_; rintro e w1 ⟨rfl, hp⟩; rw [HC.out] at hp ⊢; have HQ := Lib.hid hp; clear hp)
  go_loopw [9, 5] (fun i x wr => ∃ k : Nat, k ≤ l.length ∧ i = .int .u64 (k : Int) ∧ GetRel w R row l rest k wr) (fun i _ _ => l.length - (intOf i).toNat)
  case atStart =>
    have hq := HQ.out
    refine ⟨0, Nat.zero_le _, rfl, none, 0, ?_, ?_, World.ownsRow_nil _ _ _ _, hq.1, ?_⟩
    · exact hq.2.heap (heap_old _ (by simp) (heap_new w _)) (fun e => by have := HLT.out; omega)
    · have h2 := heap_new (w.alloc (.cells #[.pointer (some ⟨R, 0, none⟩)] 46)) (.cells #[.slice none 0 0] 57)
      simp only [World.size_alloc] at h2
      exact hq.2.heap h2 (fun e => by have := HLT.out; omega)
    · exact (Below.movedNew HB0.out).trans hq.2 (fun k _ e => e)
  case round =>
    obtain ⟨k, hk, rfl, A, c, hb0, hb1, hown, hrd, hmv⟩ := hrel
    have c0 := (cells_of_heap hb0).1 0
    have c1 := (cells_of_heap hb1).1 0
    have f1 := (cells_of_heap hb1).2 0
    by_cases hlt : k < l.length
    · have hlt' : (k : Int) < (l.length : Int) := by omega
      rw [textsB_drop l k hlt, List.append_assoc] at hrd
      have HST := Lib.hid (step_text l[k] (HX.out _ (List.getElem_mem _)) (textsB (l.drop (k + 1)) ++ rest))
      have HTK : Hid ((l.take (k + 1)).map strV = (l.take k).map strV ++ [strV l[k]]) := Lib.hid (by rw [List.take_succ_eq_append_getElem hlt, List.map_append]; rfl)
      have HRD := Lib.hid hrd
      have HOWN := Lib.hid hown
      have HMV := Lib.hid hmv
      have HB0' := Lib.hid hb0
      have HB1' := Lib.hid hb1
      have hc1 : ∀ (x : List UInt8) (W : World) (a : Addr), W.cell? a = some (.string ⟨x.toArray⟩) → ∀ (j : Nat) (u : Value), ([strV x] : List Value)[j]? = some u → W.cell? (a.add j) = some u := by
        intro x W a hW j u hj
        match j, hj with
        | 0, hj => simp at hj; subst hj; rw [show a.add 0 = a by simp [Addr.add]]; exact hW
      have HC1 := Lib.hid (hc1 l[k])
      generalize hx0 : l[k] = x at *
      clear hrd hown hmv hb0 hb1 HP HB0 HQ HC hc1
      go_wp2_with (first | (go_at_call 27; refine (rtext_any R row _ _ _ HRD.out).mono ?_; rintro e w3 ⟨rfl, hp⟩; rw [HST.out] at hp ⊢; have hb0 := hp.2.heap HB0'.out HN0.out; have hb1 := hp.2.heap HB1'.out HN1.out; have d0 := (cells_of_heap hb0).1 0; have d1 := (cells_of_heap hb1).1 0; have HW0 := Lib.hid hb0; have HW1 := Lib.hid hb1; have HP3 := Lib.hid hp; have hown3 := own_moved HOWN.out hp.2 (fun j hj e => by have := (HOWN.out.lt j hj).1; have := HLT.out; omega); have HO3 := Lib.hid hown3; clear hp hb0 hb1 hown3) | (go_at_call 29; refine (failed_any R row _ _ _ HP3.out.1).mono ?_; rintro e w' ⟨rfl, rfl⟩) | (at_builtin; refine wpList_append_own _ rfl (.tmp 16) (.tmp 18) 57 rfl (w.heap.size + 2) 9 i0 (.string ⟨#[]⟩) 1 16 Try.underlying57 hinfo hz0 hz1 hz2 rfl (by decide) _ _ _ rfl (HO3.out.alloc _) _ 1 1 [strV x] rfl rfl ?c1 ?c2 ?c3 ?c4 ?c5 ?_))
      case c1 => exact HC1.out _ _ (by simp [go_sem])
      case c2 => intro u hu; simp [strV] at hu; subst hu; rfl
      case c3 => unfold maxLen; omega
      case c4 => omega
      case c5 => have := heap_lt HW1.out; simp; omega
      intro v' w8 hown' hgrow _
      obtain ⟨A', c', rfl⟩ := owns_slice' hown'
      have hg1 : Value.ownBlock (.slice A k c) ≠ some (w.heap.size + 1) := fun e => by have := (HO3.out.lt _ e).1; omega
      have hb1 := (hgrow.block (w.heap.size + 1) (by have := heap_lt HW1.out; simp; omega) hg1.symm).trans (heap_old _ (heap_lt HW1.out) HW1.out)
      have d1 := (cells_of_heap hb1).1 0
      have e1 := (cells_of_heap hb1).2 0
      have HM3 : Hid (Moved (fun j => w.heap.size ≤ j) w3 (w8.setCell ⟨w.heap.size + 1, 0, none⟩ (.slice A' (k + 1) c'))) := Lib.hid ((((Moved.refl _ w3).alloc _).grown hgrow (fun j _ e => by have := (HO3.out.lt j e).1; omega)).setCell (.inr (by omega)) _)
      have HM4 : Hid (Moved (fun j => w.heap.size ≤ j ∧ j ≠ w.heap.size) w3 (w8.setCell ⟨w.heap.size + 1, 0, none⟩ (.slice A' (k + 1) c'))) := Lib.hid ((((Moved.refl _ w3).alloc _).grown hgrow (fun j _ e => by have := (HO3.out.lt j e).1; omega)).setCell (.inr (by omega)) _)
      have HO8 : Hid ((w8.setCell ⟨w.heap.size + 1, 0, none⟩ (.slice A' (k + 1) c')).ownsRow (w.heap.size + 2) 9 1 (.slice A' (k + 1) c') (k + 1) ((l.take (k + 1)).map strV)) := Lib.hid (by
        rw [HTK.out, List.map_take]
        exact own_moved (p := fun j => j = w.heap.size + 1) hown' ((Moved.refl (fun j => j = w.heap.size + 1) w8).setCell (.inr rfl) _) (fun j hj e => by have := (hown'.lt j hj).1; omega))
      have HB8 := Lib.hid hb1
      clear hown' hgrow hg1 hb1
      go_wp2
      go_roundw
      case rel =>
        have h8 := heap_set HB8.out 0 (.slice A' (k + 1) c')
        refine ⟨k + 1, by omega, by go_num, A', c', HM4.out.heap HW0.out (fun h => h.2 rfl), by simpa using h8, HO8.out, ?_, ?_⟩
        · exact HP3.out.1.moved HM3.out (by have := HLT.out; omega) (fun j hj => by have := HR.out j hj; omega)
        · exact (HMV.out.trans HP3.out.2 (fun j _ e => e)).trans HM3.out (fun j hj e => by omega)
      case measure => simp [intOf]; omega
    · obtain rfl : k = l.length := by omega
      go_wp2_with fail
      refine leaves_cons (f := 49) (args := #[.pointer (some ⟨w.heap.size, 0, none⟩), .pointer (some ⟨w.heap.size + 1, 0, none⟩)]) (by simp) (by simp [go_sem]) ?_
      refine (gcatch_str ⟨w.heap.size, 0, none⟩ ⟨w.heap.size + 1, 0, none⟩ _).mono ?_
      rintro e u' w'' ⟨rfl, rfl, rfl⟩
      have hx1 := heap_set hb1 0 (.slice A l.length c)
      simp at hx1
      have g1 := (cells_of_heap hx1).1 0
      simp [Leaves, settle, results, Try.results33, go_sem, g1]
      have hm1 : Moved (fun j => j = w.heap.size + 1) wr (wr.setCell ⟨w.heap.size + 1, 0, none⟩ (.slice A l.length c)) := (Moved.refl (fun j => j = w.heap.size + 1) wr).setCell (.inr rfl) _
      refine ⟨A, c, rfl, ?_, ?_, ?_⟩
      · rw [List.take_length] at hown
        exact own_moved hown hm1 (fun j hj e => by have := (hown.lt j hj).1; omega)
      · have e0 : textsB (l.drop l.length) ++ rest = rest := by rw [List.drop_length]; rfl
        rw [e0] at hrd
        exact hrd.moved hm1 (by have := HLT.out; omega) (fun j hj => by have := HR.out j hj; omega)
      · exact hmv.setCell (.inl (by omega)) _
end Go.Proofs.Ytnphmejmcnihoaa
