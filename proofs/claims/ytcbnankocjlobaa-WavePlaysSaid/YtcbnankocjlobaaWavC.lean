/- Package wave: count, Count, Over. -/
import Derived.Test.YtcbnankocjlobaaWavB
set_option linter.unusedSimpArgs false
set_option linter.unusedVariables false
namespace Go.Proofs.Ytcbnankocjlobaa
open Go.ChangeShapes Go.WideShapes Go.ChangeAt Go.RowKit Go.Base

theorem wpList_wanted {P : Program} {ops : Array Oper} {Q : Exit → Act → World → Prop} {a : Act} {w : World} {rest : List Oper} {o : Oper} (hw : Region.wanted o (yielded ops a.tmps) = true)
    (h : ∀ K : Act → World → Prop, (∀ a w, wpList P ops Q rest a w → K a w) → o.wp P a w K Q) : wpList P ops Q (o :: rest) a w :=
  wpList_step fun K hK => by rw [if_pos hw]; exact h K hK
/-- How many are all that is asked. -/
def cnt (p : Stp → Bool) (l : List Stp) : Nat := l.countP p
theorem cnt_snoc (p : Stp → Bool) (l : List Stp) (s : Stp) : cnt p (l ++ [s]) = cnt p l + if p s = true then 1 else 0 := by
  unfold cnt; rw [List.countP_append]; simp [List.countP_cons]
theorem cnt_take (p : Stp → Bool) (l : List Stp) {k : Nat} (hk : k < l.length) : cnt p (l.take (k + 1)) = cnt p (l.take k) + if p l[k] = true then 1 else 0 := by
  rw [List.take_succ_eq_append_getElem hk, cnt_snoc]
theorem cnt_le (p : Stp → Bool) (l : List Stp) : cnt p l ≤ l.length := List.countP_le_length
abbrev zSt : Array Value := #[.string ⟨#[]⟩, .int .i64 0, .int .i64 0, .int .i64 0, .int .i64 0, .int .i64 0, .int .i64 0, .int .i64 0, .int .i64 0, .int .i64 0]
theorem stC_one (s : Stp) : (stC s).toArray.toList.all (·.oneCell') = true := rfl
theorem stC_size (s : Stp) : (stC s).length = 10 := rfl
theorem szSt : (Try.prog.info? 41).map (·.size) = some 10 := by kernel_rfl
set_option maxHeartbeats 4000000 in
set_option maxRecDepth 20000 in
theorem count_any (A : Option Addr) (l : List Stp) (c : Nat) (B : Option Addr) (fs : List Fnv) (d : Nat) (w : World) (hS : Stps w A l) (hm : l.length ≤ 2199023255552) (hF : Fns w B fs) (hfm : fs.length ≤ maxLen) :
    Calls Try.prog 20 #[.slice A l.length c, .slice B fs.length d] w fun e w' => e = .returned (.int .i64 (cnt (allF fs) l : Nat)) ∧ Below w.heap.size w w' := by
  have HS := Lib.hid hS
  have hm' : (l.length : Int) ≤ 9223372036854775807 := by omega
  have HI := Lib.hid (fun s V (hV : Below w.heap.size w V) => isAll_any s B fs d V (hF.later hV) hfm)
  have HT := Lib.hid (fun k (hk : k < l.length) => cnt_take (allF fs) l hk)
  have HL : Hid (∀ k, cnt (allF fs) (l.take k) ≤ l.length) := Lib.hid (fun k => Nat.le_trans (cnt_le _ _) (by rw [List.length_take]; omega))
  have HE : Hid (cnt (allF fs) (l.take l.length) = cnt (allF fs) l) := Lib.hid (by rw [List.take_length])
  have H0 : Hid (cnt (allF fs) (l.take 0) = 0) := Lib.hid rfl
  rw [← HE.out]
  clear hS hF hfm HE
  go_enter Try.func20, Try.ntmps20
  go_wp2
  go_loopw [5, 10] (fun nv iv wr => ∃ k : Nat, k ≤ l.length ∧ nv = .int .i64 (cnt (allF fs) (l.take k) : Nat) ∧ iv = .int .i64 (k : Int) ∧ Hid (Below w.heap.size w wr)) (fun _ iv _ => l.length - (intOf iv).toNat)
  case atStart => exact ⟨0, Nat.zero_le _, by rw [H0.out]; rfl, rfl, Lib.hid (Below.refl _ _)⟩
  case round =>
    obtain ⟨k, hk, rfl, rfl, HB⟩ := hrel
    by_cases hlt : k < l.length
    · have hlt' : (k : Int) < (l.length : Int) := by omega
      have hk0 : (0 : Int) ≤ (k : Int) := by omega
      obtain ⟨b, o, rfl, hr⟩ := (HS.out.later HB.out) k hlt
      have HIk := Lib.hid (HI.out l[k])
      have HTk := Lib.hid (HT.out k hlt)
      have hLk := HL.out k
      have hO := stC_one l[k]
      have HR := Lib.hid hr
      have hzC := stC_size l[k]
      clear hr
      generalize l[k] = s at *
      obtain ⟨L, hL⟩ : ∃ L, L = stC s := ⟨_, rfl⟩
      rw [← hL] at hO hzC HR HIk
      have hszC : (Try.prog.info? 41).map (·.size) = some L.length := by rw [hzC]; exact szSt
      have hszA : (Try.prog.info? 41).map (·.size) = some L.toArray.size := by rw [List.size_toArray]; exact hszC
      have hsz1 : zSt.size = L.toArray.size := by rw [List.size_toArray]; exact hzC.symm
      clear hL
      generalize cnt (allF fs) (l.take k) = n at *
      have hn' : (n : Int) ≤ 2199023255552 := by omega
      cases hq : allF fs s
      · rw [hq] at HIk
        have HV : Hid (cnt (allF fs) (l.take (k + 1)) = n) := Lib.hid (by rw [HTk.out, hq]; rfl)
        clear HTk hq
        go_wp2_with (first
          | (refine wpList_load_mid rfl 41 (.tmp 12) rfl b (o + k * 10) rfl L _ HR.out Try.underlying41 rfl hszC ?_)
          | (refine wpList_store_new rfl 41 (.tmp 7) (.tmp 13) rfl wr.heap.size L.toArray rfl rfl 41 zSt (heap_new wr _) hszA hsz1 hO ?_; intro w2 hs2 hb2 hg2 ho2; have HB2 := Lib.hid (hb2 w.heap.size w (HB.out.trans ((below_alloc wr _).mono HB.out.size)) HB.out.size); clear hs2 hb2 ho2)
          | (refine wpList_load_row rfl 41 (.tmp 7) rfl wr.heap.size rfl 41 L.toArray (0, 0) _ hg2 Try.underlying41 rfl hszA ?_)
          | (go_at_call 32; refine (HIk.out _ HB2.out).mono ?_; rintro e w3 ⟨rfl, hb3⟩; have HB3 := Lib.hid (HB2.out.trans (hb3.mono HB2.out.size)); clear hb3)
          | go_in)
        go_roundw
        case rel => exact ⟨k + 1, by omega, by rw [HV.out], by go_num, HB3⟩
        case measure => simp [intOf]; omega
      · rw [hq] at HIk
        have HV : Hid (cnt (allF fs) (l.take (k + 1)) = n + 1) := Lib.hid (by rw [HTk.out, hq]; rfl)
        clear HTk hq
        go_wp2_with (first
          | (refine wpList_load_mid rfl 41 (.tmp 12) rfl b (o + k * 10) rfl L _ HR.out Try.underlying41 rfl hszC ?_)
          | (refine wpList_store_new rfl 41 (.tmp 7) (.tmp 13) rfl wr.heap.size L.toArray rfl rfl 41 zSt (heap_new wr _) hszA hsz1 hO ?_; intro w2 hs2 hb2 hg2 ho2; have HB2 := Lib.hid (hb2 w.heap.size w (HB.out.trans ((below_alloc wr _).mono HB.out.size)) HB.out.size); clear hs2 hb2 ho2)
          | (refine wpList_load_row rfl 41 (.tmp 7) rfl wr.heap.size rfl 41 L.toArray (0, 0) _ hg2 Try.underlying41 rfl hszA ?_)
          | (go_at_call 32; refine (HIk.out _ HB2.out).mono ?_; rintro e w3 ⟨rfl, hb3⟩; have HB3 := Lib.hid (HB2.out.trans (hb3.mono HB2.out.size)); clear hb3)
          | go_in)
        go_roundw
        case rel => exact ⟨k + 1, by omega, by rw [HV.out]; go_num, by go_num, HB3⟩
        case measure => simp [intOf]; omega
    · obtain rfl : k = l.length := by omega
      clear hlt
      go_wp2
      go_ret
      exact ⟨rfl, HB.out⟩
end Go.Proofs.Ytcbnankocjlobaa
