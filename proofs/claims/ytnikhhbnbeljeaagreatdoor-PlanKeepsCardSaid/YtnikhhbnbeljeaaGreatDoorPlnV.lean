/- Package plan: how many runs of a wave there were so far (plain); a host is found. Walk of the law PlanKeeps. -/
import Derived.Test.YtnikhhbnbeljeaaGreatDoorPlnS
set_option linter.unusedSimpArgs false
set_option linter.unusedVariables false
namespace Go.Proofs.YtnikhhbnbeljeaaGreatDoor.PL
open Go.ChangeShapes Go.WideShapes Go.ChangeAt Go.RowKit Go.Base Go.Lab

theorem step_div (W k : Nat) (hW : 0 < W) : (k % W + 1 < W ∧ (k + 1) / W = k / W ∧ (k + 1) % W = k % W + 1) ∨ (k % W + 1 = W ∧ (k + 1) / W = k / W + 1 ∧ (k + 1) % W = 0) := by
  have h1 := Nat.div_add_mod k W
  have h2 := Nat.mod_lt k hW
  have e : k + 1 = W * (k / W) + (k % W + 1) := by omega
  by_cases h : k % W + 1 < W
  · left
    refine ⟨h, ?_, ?_⟩
    · rw [e, Nat.mul_add_div hW, Nat.div_eq_of_lt h, Nat.add_zero]
    · rw [e, Nat.mul_add_mod, Nat.mod_eq_of_lt h]
  · right
    have h3 : k % W + 1 = W := by omega
    refine ⟨h3, ?_, ?_⟩
    · rw [e, h3, Nat.mul_add_div hW, Nat.div_self hW]
    · rw [e, h3, Nat.mul_add_mod, Nat.mod_self]
/-- How many runs of the newest wave there are among the first k. -/
def cntN (wav : Int) (k : Nat) : Int := if k = 0 then 0 else if wav = 0 then (k : Int) else (((k - 1) % wav.toNat : Nat) : Int) + 1
theorem cntN_zero (wav : Int) : cntN wav 0 = 0 := rfl
theorem cntN_bd {wav : Int} (h : 0 ≤ wav) (k : Nat) : 0 ≤ cntN wav k ∧ cntN wav k ≤ k := by
  unfold cntN
  split
  · omega
  · split
    · omega
    · have := Nat.mod_le (k - 1) wav.toNat; omega
theorem cntN_le {wav : Int} (h : 0 < wav) (k : Nat) : cntN wav k ≤ wav := by
  unfold cntN
  rw [if_neg (show ¬ wav = 0 by omega)]
  have := Nat.mod_lt (k - 1) (show 0 < wav.toNat by omega)
  split <;> omega
theorem cntN_one (wav : Int) (h : 0 ≤ wav) : cntN wav 1 = 1 := by
  unfold cntN
  rw [if_neg (by decide)]
  split
  · rfl
  · simp
theorem wvN_nat {wav : Int} (h : 0 < wav) (k : Nat) : wvN wav k = ((k / wav.toNat : Nat) : Int) := by
  unfold wvN
  rw [if_neg (by omega)]
  obtain ⟨W, rfl⟩ : ∃ W : Nat, wav = (W : Int) := ⟨wav.toNat, by omega⟩
  simp
theorem cntN_step {wav : Int} (h : 0 ≤ wav) (k : Nat) :
    (wvN wav (k + 1) = wvN wav k ∧ cntN wav (k + 2) = cntN wav (k + 1) + 1) ∨ (wvN wav (k + 1) = wvN wav k + 1 ∧ cntN wav (k + 1) = wav ∧ cntN wav (k + 2) = 1) := by
  by_cases h0 : wav = 0
  · left
    subst h0
    refine ⟨rfl, ?_⟩
    unfold cntN
    simp
    omega
  · have hp : 0 < wav := by omega
    rw [wvN_nat hp, wvN_nat hp]
    have hW : 0 < wav.toNat := by omega
    have e1 : cntN wav (k + 1) = ((k % wav.toNat : Nat) : Int) + 1 := by unfold cntN; rw [if_neg (by omega), if_neg h0]; simp
    have e2 : cntN wav (k + 2) = (((k + 1) % wav.toNat : Nat) : Int) + 1 := by unfold cntN; rw [if_neg (by omega), if_neg h0]; simp
    rw [e1, e2]
    rcases step_div wav.toNat k hW with ⟨a, b, c⟩ | ⟨a, b, c⟩
    · left; rw [b, c]; omega
    · right; rw [b, c]; omega
theorem runs_found {j : Jb} {ver occ : Int} {L : List Int} {h : Int} (hm : h ∈ L) : ∃ k : Nat, findV (runsOf j ver occ L) h = .tuple #[.int .i64 (k : Int), .bool true] := by
  obtain ⟨i, hi, rfl⟩ := List.mem_iff_getElem.1 hm
  unfold findV
  cases hq : findR (runsOf j ver occ L) L[i] with
  | some k => exact ⟨k, rfl⟩
  | none =>
    exfalso
    unfold findR at hq
    rw [List.findIdx?_eq_none_iff] at hq
    have hi2 : i < (runsOf j ver occ L).length := by rw [runsOf_len]; exact hi
    have := hq _ (List.getElem_mem hi2)
    rw [runsOf_at j ver occ L i hi] at this
    rw [List.getD_eq_getElem?_getD, List.getElem?_eq_getElem hi] at this
    simp [rnOf] at this

theorem runsR_ok {j : Jb} {ver occ : Int} {hs l : List Int} (h : runsR j ver occ hs = .ok l) : mayJ j = true ∧ -62135596800 ≤ occ ∧ occ ≤ 253402300799 ∧ l = ordH (rankN j.name occ) hs ∧ hs.length ≤ 4096 := by
  unfold runsR at h
  split at h
  · cases h
  · next hq =>
    split at h
    · cases h
    · next hb =>
      injection h with h
      have hq1 : occOk j ver occ = true := by
        cases h1 : occOk j ver occ
        · rw [h1] at hq; exact absurd rfl hq
        · rfl
      obtain ⟨a, b, c⟩ := occ_ok hq1
      exact ⟨a, b, c, h.symm, by omega⟩
theorem runsR_err {j : Jb} {ver occ : Int} {hs : List Int} {c : Int} (h : runsR j ver occ hs = .error c) : c = 1 ∨ c = 3 := by
  unfold runsR at h
  split at h
  · injection h with h; exact .inl h.symm
  · split at h
    · injection h with h; exact .inr h.symm
    · cases h
def jobCl (nm : Bytes) (mi ho da mo we : Int) (ad aw : Bool) (sa : Option Addr) (n sc : Nat) (jit wav fai par dea mis bnd : Int) : Array Value :=
  #[.string ⟨nm.toArray⟩, .int .u64 mi, .int .u64 ho, .int .u64 da, .int .u64 mo, .int .u64 we, .bool ad, .bool aw, .slice sa n sc, .int .i64 jit, .int .i64 wav, .int .i64 fai, .int .i64 par, .int .i64 dea, .int .i64 mis, .int .i64 bnd]
set_option maxHeartbeats 8000000 in
set_option maxRecDepth 20000 in
theorem law_keeps_err (j : Jb) (occ : Int) (A : Option Addr) (hs : List Int) (c : Nat) (w : World) (hj : j.Ok w) (ho : I64 occ) (hN : Nums w A hs) (hm : hs.length ≤ maxLen) (hT : Tb w) (z : Int) (hz : runsR j 1 occ hs = .error z) :
    Calls Tryz.prog 11 #[jobV j, .int .i64 occ, .slice A hs.length c] w fun e w' => e = .returned (.bool true) ∧ Below w.heap.size w w' := by
  have HR := Lib.hid (fun V (hV : Below w.heap.size w V) => (runs_any j 1 occ A hs c V (hj.later hV) ⟨by decide, by decide⟩ ho (hN.later hV) hm (hT.later hV)).mono (fun e w' (h : RunsPost j 1 occ hs V e w') => (show e = .returned (.tuple #[.slice none 0 0, .int .i64 z]) ∧ Below V.heap.size V w' from ⟨h.1 z hz, h.2.2⟩)))
  have HL := Lib.hid (fun V hV => lives_any V hV)
  have HT := Lib.hid hT
  have hz0 : (z != 0) = true := by rcases runsR_err hz with rfl | rfl <;> rfl
  clear hj ho hN hm hT hz
  obtain ⟨nm, sp, sa, sel, sc, jit, wav, fai, par, dea, mis, bnd⟩ := j
  obtain ⟨mi, hO, da, mo, we, ad, aw⟩ := sp
  simp only [jobV, jobC] at *
  go_enter Tryz.func11, Tryz.ntmps11
  go_wp2_with (first | (go_at_call 32; refine (HR.out _ (below_alloc w _)).mono ?_; rintro e w1 ⟨rfl, hb⟩; have HB1 := Lib.hid ((below_alloc w _).trans (hb.mono (by simp))); clear hb) | (go_at_call 34; refine (HL.out _ (HT.out.later HB1.out)).mono ?_; rintro e w2 ⟨rfl, hb⟩; have HB2 := Lib.hid (HB1.out.trans (hb.mono HB1.out.size)); clear hb))
  go_ret
  exact ⟨rfl, HB2.out⟩
theorem rns_drew {w : World} {A : Option Addr} {l : List Rn} (h : Rns w A l) (n : Nat) : Rns (w.drewN n) A l := h.later (below_drewN (Below.refl _ _) n)
theorem row_drew {w : World} {k n : Nat} {o : Obj} (h : w.heap[k]? = some o) : (w.drewN n).heap[k]? = some o := h
set_option maxHeartbeats 16000000 in
set_option maxRecDepth 20000 in
theorem law_keeps_ok (j : Jb) (occ : Int) (A : Option Addr) (hs : List Int) (c : Nat) (w : World) (hj : j.Ok w) (ho : I64 occ) (hN : Nums w A hs) (hm : hs.length ≤ maxLen) (hT : Tb w) (L : List Int) (hz : runsR j 1 occ hs = .ok L) :
    Calls Tryz.prog 11 #[jobV j, .int .i64 occ, .slice A hs.length c] w fun e w' => e = .returned (.bool true) ∧ Below w.heap.size w w' := by
  obtain ⟨hmj, o1, o2, hL, hle⟩ := runsR_ok hz
  have hLn : L.length = hs.length := by rw [hL, ordH_len]
  have hmem : ∀ x ∈ hs, x ∈ L := fun x hx => by rw [hL]; exact (ordH_perm _ hs).symm.subset hx
  obtain ⟨⟨jt0, jt1⟩, ⟨dd0, dd1, dd2⟩, ⟨wv0, wv1⟩⟩ := (mayJ_true hmj).2
  obtain ⟨RS, hRS⟩ : ∃ RS, RS = runsOf j 1 occ L := ⟨_, rfl⟩
  have hRn : RS.length = hs.length := by rw [hRS, runsOf_len, hLn]
  have HR := Lib.hid (fun V (hV : Below w.heap.size w V) => (runs_any j 1 occ A hs c V (hj.later hV) ⟨by decide, by decide⟩ ho (hN.later hV) hm (hT.later hV)).mono (fun e w' (h : RunsPost j 1 occ hs V e w') => (show ∃ g, e = .returned (.tuple #[.slice (some ⟨g, 0, none⟩) hs.length hs.length, .int .i64 0]) ∧ Rns w' (some ⟨g, 0, none⟩) RS ∧ Below V.heap.size V w' from by
    obtain ⟨g, he, hr, _⟩ := h.2.1 L hz
    exact ⟨g, by rw [he, hLn], by rw [hRS]; exact rns_of hr, h.2.2⟩)))
  have HL := Lib.hid (fun V hV => lives_any V hV)
  have HT := Lib.hid hT
  have HN := Lib.hid hN
  have hwvok : WvOk RS := by rw [hRS]; exact runs_wv wv0 (by omega)
  have HWa := Lib.hid (fun V g (hV : Rns V (some ⟨g, 0, none⟩) RS) => (show Calls Tryz.prog 42 #[.slice (some ⟨g, 0, none⟩) hs.length hs.length] V fun e w' => e = .returned (.int .i64 (wavesR RS)) ∧ Below V.heap.size V w' from by
    have h := waves_any (some ⟨g, 0, none⟩) RS hs.length V hV (by rw [hRn]; exact hm) hwvok
    rwa [hRn] at h))
  have HFi := Lib.hid (fun x (hx : x ∈ hs) => (show ∃ z : Int, ∀ V g, Rns V (some ⟨g, 0, none⟩) RS → Calls Tryz.prog 40 #[.slice (some ⟨g, 0, none⟩) hs.length hs.length, .int .i64 x] V fun e w' => e = .returned (.tuple #[.int .i64 z, .bool true]) ∧ Below V.heap.size V w' from by
    obtain ⟨k, hk⟩ := runs_found (j := j) (ver := 1) (occ := occ) (hmem x hx)
    refine ⟨k, fun V g hV => ?_⟩
    have h := find_any (some ⟨g, 0, none⟩) RS hs.length x V hV (by rw [hRn]; exact hm)
    rw [hRn, hRS, hk] at h
    exact h))
  have HAt : Hid (∀ k (h : k < RS.length), ∃ jn, 0 ≤ jn ∧ jn ≤ j.jit ∧ RS[k].at_ = occ + jn ∧ RS[k].un = occ + j.dea ∧ RS[k].wv = wvN j.wav k) := Lib.hid (fun k h => by
    subst hRS
    rw [runsOf_at j 1 occ L k (by rw [runsOf_len] at h; exact h)]
    have := MI.spr_bd (j.jit + 1) [j.name, itoT (L.getD k 0)] (by omega)
    exact ⟨jitN j (L.getD k 0), this.1, by unfold jitN; omega, rfl, rfl, rfl⟩)
  have HWz : Hid ((hs.length = 0 → wavesR RS = 0) ∧ (0 < hs.length → wavesR RS = wvN j.wav (hs.length - 1) + 1)) := Lib.hid ⟨fun h => by
    rw [List.length_eq_zero_iff.1 (show RS.length = 0 by omega)]; rfl, fun h => by
    rw [hRS, runs_waves wv0 (by omega), hLn]⟩
  have HRn := Lib.hid hRn
  generalize wavesR RS = wz at *
  clear hj ho hN hm hT hz hwvok hL hmem hRS hRn hLn hmj
  obtain ⟨nm, sp, sa, sel, sc, jit, wav, fai, par, dea, mis, bnd⟩ := j
  obtain ⟨mi, hO, da, mo, we, ad, aw⟩ := sp
  simp only [jobV, jobC] at *
  have hle' : (hs.length : Int) ≤ 4096 := by omega
  have HWbd : Hid (∀ k, 0 ≤ wvN wav k ∧ wvN wav k ≤ k) := Lib.hid (fun k => wvN_bd wv0 k)
  have HCbd : Hid (∀ k, 0 ≤ cntN wav k ∧ cntN wav k ≤ k) := Lib.hid (fun k => cntN_bd wv0 k)
  have HSt := Lib.hid (fun k => cntN_step wv0 k)
  have HC1 := Lib.hid (cntN_one wav wv0)
  have HCle : Hid (0 < wav → ∀ k, cntN wav k ≤ wav) := Lib.hid (fun h k => cntN_le h k)
  have HC0 : Hid (cntN wav 0 = 0) := Lib.hid (cntN_zero wav)
  have HW0 : Hid (wav = 0 → ∀ k, wvN wav k = 0) := Lib.hid (fun h k => by unfold wvN; rw [if_pos h])
  have hwz1 : (decide ((0 : Int) < (hs.length : Int)) && decide (wz < 1)) = false := by
    by_cases h : 0 < hs.length
    · rw [HWz.out.2 h]
      have := (HWbd.out (hs.length - 1)).1
      rw [decide_eq_false (show ¬ wvN wav (hs.length - 1) + 1 < 1 by omega)]; simp
    · rw [decide_eq_false (by omega)]; rfl
  generalize cntN wav = CN at *
  generalize wvN wav = WV at *
  go_enter Tryz.func11, Tryz.ntmps11
  by_cases hn0 : 0 < hs.length
  · have hn0' : (0 : Int) < (hs.length : Int) := by omega
    have hwz2 : ¬ wz < 1 := by rw [HWz.out.2 hn0]; have := (HWbd.out (hs.length - 1)).1; omega
    clear hwz1
    go_wp2_with (first | (go_at_call 32; refine (HR.out _ (below_alloc w _)).mono ?_; rintro e w1 ⟨g, rfl, hrs, hb⟩; have hr1 := row_below hb (by simp) (heap_new w (.cells #[.string ⟨nm.toArray⟩, .int .u64 mi, .int .u64 hO, .int .u64 da, .int .u64 mo, .int .u64 we, .bool ad, .bool aw, .slice sa sel.length sc, .int .i64 jit, .int .i64 wav, .int .i64 fai, .int .i64 par, .int .i64 dea, .int .i64 mis, .int .i64 bnd] 27)); have HR1 := Lib.hid hr1; have HRS1 := Lib.hid hrs; have HB1 := Lib.hid ((below_alloc w _).trans (hb.mono (by simp))); clear hb hr1 hrs) | (go_at_call 34; refine (HL.out _ (HT.out.later HB1.out)).mono ?_; rintro e w2 ⟨rfl, hb⟩; have hr2 := row_below hb (heap_lt HR1.out) HR1.out; have HR2 := Lib.hid hr2; have HRS2 := Lib.hid (HRS1.out.later hb); have HB2 := Lib.hid (HB1.out.trans (hb.mono HB1.out.size)); clear hb hr2) | (go_at_call 42; refine (HWa.out _ _ HRS2.out).mono ?_; rintro e w3 ⟨rfl, hb⟩; have hr3 := row_below hb (heap_lt HR2.out) HR2.out; have HRow0 := Lib.hid hr3; have HRS0 := Lib.hid (HRS2.out.later hb); have HB0 := Lib.hid (HB2.out.trans (hb.mono HB2.out.size)); clear hb hr3))
    clear HR1 HRS1 HB1 HR2 HRS2 HB2 HR HL HT HWa
    go_loopw [10, 11, 12, 13] (fun cnt i _ _ wr => ∃ k : Nat, k ≤ hs.length ∧ i = .int .i64 (k : Int) ∧ cnt = .int .i64 (CN k) ∧ Hid (Below w.heap.size w wr) ∧ Hid (Rns wr (some ⟨g, 0, none⟩) RS) ∧ Hid (wr.heap[w.heap.size]? = some (.cells #[.string ⟨nm.toArray⟩, .int .u64 mi, .int .u64 hO, .int .u64 da, .int .u64 mo, .int .u64 we, .bool ad, .bool aw, .slice sa sel.length sc, .int .i64 jit, .int .i64 wav, .int .i64 fai, .int .i64 par, .int .i64 dea, .int .i64 mis, .int .i64 bnd] 27 (0, 0)))) (fun _ i _ _ _ => hs.length - (intOf i).toNat)
    case atStart => exact ⟨0, Nat.zero_le _, rfl, by rw [HC0.out], HB0, HRS0, HRow0⟩
    case round =>
      obtain ⟨k, hk, rfl, rfl, HB, HRS, HRow⟩ := hrel
      clear HB0 HRS0 HRow0
      obtain ⟨cn0, cn1⟩ := HCbd.out k
      obtain ⟨cb, _⟩ := cells_of_heap HRow.out
      by_cases hlt : k < hs.length
      · have hlt' : (k : Int) < (hs.length : Int) := by omega
        have hk0 : (0 : Int) ≤ (k : Int) := by omega
        have hkR : k < RS.length := by rw [HRn.out]; exact hlt
        obtain ⟨b, o, rfl, cx, _, _⟩ := (HN.out.later HB.out) k hlt
        obtain ⟨b', o', e', hr⟩ := HRS.out k hkR
        injection e' with e'; injection e' with e1 e2 _; subst e1; subst e2
        rw [Nat.zero_add] at hr
        obtain ⟨_, _, _, _, c4, c5, c6⟩ := rn_cells hr
        obtain ⟨jn, jn0, jn1, ea, eu, ew⟩ := HAt.out k hkR
        rw [ea] at c4
        rw [eu] at c5
        rw [ew] at c6
        clear ea eu ew hr
        have HFk := HFi.out hs[k] (List.getElem_mem hlt)
        obtain ⟨fz, hfz⟩ := HFk
        have HFk := Lib.hid hfz
        clear hfz
        obtain ⟨av, hav⟩ : ∃ av, av = occ + jn := ⟨_, rfl⟩
        obtain ⟨uv, huv⟩ : ∃ uv, uv = occ + dea := ⟨_, rfl⟩
        have hw2 : IntKind.i64.wrap (occ + dea) = uv := by rw [huv]; exact IntWalk.i64_in _ (by omega)
        have hA1 : decide (av < occ) = false := decide_eq_false (by omega)
        have hA2 : decide (uv ≤ av) = false := decide_eq_false (by omega)
        rw [← hav] at c4
        rw [← huv] at c5
        clear hav huv
        have HC1k := Lib.hid (fun (h : k = 0) => (show CN (k + 1) = CN k + 1 from by subst h; rw [HC1.out, HC0.out]; rfl))
        have HS1 := Lib.hid (fun (h : 0 < k) => (show (WV k = WV (k - 1) ∧ CN (k + 1) = CN k + 1) ∨ (WV k = WV (k - 1) + 1 ∧ CN k = wav ∧ CN (k + 1) = 1) from by
          have := HSt.out (k - 1)
          rwa [show k - 1 + 1 = k by omega, show k - 1 + 2 = k + 1 by omega] at this))
        obtain ⟨q0, q1⟩ := HWbd.out k
        generalize hs[k] = x at *
        by_cases e0 : k = 0
        · have HCk := Lib.hid (HC1k.out e0)
          have hkd : decide ((0 : Int) < (k : Int)) = false := decide_eq_false (by omega)
          have hkdn : decide (0 < k) = false := decide_eq_false (by omega)
          generalize WV k = q at *
          clear e0
          go_wp2_with (go_at_call 40; refine (HFk.out _ _ HRS.out).mono ?_; rintro e w5 ⟨rfl, hb⟩; have HB5 := Lib.hid (HB.out.trans (hb.mono HB.out.size)); have HRS5 := Lib.hid (HRS.out.later hb); have hr5 := row_below hb (heap_lt HRow.out) HRow.out; obtain ⟨cb5, _⟩ := cells_of_heap hr5; have HRow5 := Lib.hid hr5; have d4 := cell_later hb c4; have d5 := cell_later hb c5; have d6 := cell_later hb c6; clear hb hr5 cb cx c4 c5 c6)
          go_quiet (fail)
          go_wp2
          go_quiet (fail)
          go_wp2
          go_roundw
          case rel => exact ⟨k + 1, by omega, by go_num, by rw [HCk.out], Lib.hid (by repeat (first | exact HB5.out | refine below_drewN ?_ _)), Lib.hid (by repeat (first | exact HRS5.out | refine rns_drew ?_ _)), Lib.hid HRow5.out⟩
          case measure => simp [intOf]; omega
        · have h0 : 0 < k := by omega
          have hkd : decide ((0 : Int) < (k : Int)) = true := decide_eq_true (by omega)
          have hkdn : decide (0 < k) = true := decide_eq_true (by omega)
          have hkd2 : (0 : Int) < (k : Int) := by omega
          have hkp : k - 1 < RS.length := by omega
          obtain ⟨b3, o3, e3, hr3⟩ := HRS.out (k - 1) hkp
          injection e3 with e3; injection e3 with e1 e2 _; subst e1; subst e2
          rw [Nat.zero_add] at hr3
          obtain ⟨_, _, _, _, _, _, p6⟩ := rn_cells hr3
          obtain ⟨_, _, _, _, _, ew3⟩ := HAt.out (k - 1) hkp
          rw [ew3] at p6
          clear ew3 hr3
          have hwk : IntKind.i64.wrap ((k : Int) - 1) = (k : Int) - 1 := IntWalk.i64_in _ (by omega)
          have hk1 : (0 : Int) ≤ (k : Int) - 1 := by omega
          have hk2 : (k : Int) - 1 < (hs.length : Int) := by omega
          have hk3 : ((k : Int) - 1).toNat = k - 1 := by omega
          obtain ⟨r0, r1⟩ := HWbd.out (k - 1)
          rcases HS1.out h0 with ⟨hq, hc⟩ | ⟨hq, hcw, hc⟩
          · have HCk := Lib.hid hc
            clear hc HC1k HS1
            rw [hq] at c6
            clear hq q0 q1
            generalize WV (k - 1) = pp at *
            go_wp2_with (go_at_call 40; refine (HFk.out _ _ HRS.out).mono ?_; rintro e w5 ⟨rfl, hb⟩; have HB5 := Lib.hid (HB.out.trans (hb.mono HB.out.size)); have HRS5 := Lib.hid (HRS.out.later hb); have hr5 := row_below hb (heap_lt HRow.out) HRow.out; obtain ⟨cb5, _⟩ := cells_of_heap hr5; have HRow5 := Lib.hid hr5; have d4 := cell_later hb c4; have d5 := cell_later hb c5; have d6 := cell_later hb c6; have d7 := cell_later hb p6; clear hb hr5 cb cx c4 c5 c6 p6)
            go_quiet (fail)
            go_wp2
            go_quiet (fail)
            go_wp2
            go_roundw
            case rel => exact ⟨k + 1, by omega, by go_num, by rw [HCk.out], Lib.hid (by repeat (first | exact HB5.out | refine below_drewN ?_ _)), Lib.hid (by repeat (first | exact HRS5.out | refine rns_drew ?_ _)), Lib.hid HRow5.out⟩
            case measure => simp [intOf]; omega
          · have HCk := Lib.hid hc
            clear hc HC1k HS1
            rw [hq] at c6
            clear hq q0 q1
            generalize WV (k - 1) = pp at *
            have hcw2 : (CN k != wav) = false := by rw [hcw]; simp
            have hpp : (pp + 1 != pp) = true := by simp; omega
            have hwp : IntKind.i64.wrap (pp + 1) = pp + 1 := IntWalk.i64_in _ (by omega)
            clear hcw
            generalize CN k = ck at *
            go_wp2_with (go_at_call 40; refine (HFk.out _ _ HRS.out).mono ?_; rintro e w5 ⟨rfl, hb⟩; have HB5 := Lib.hid (HB.out.trans (hb.mono HB.out.size)); have HRS5 := Lib.hid (HRS.out.later hb); have hr5 := row_below hb (heap_lt HRow.out) HRow.out; obtain ⟨cb5, _⟩ := cells_of_heap hr5; have HRow5 := Lib.hid hr5; have d4 := cell_later hb c4; have d5 := cell_later hb c5; have d6 := cell_later hb c6; have d7 := cell_later hb p6; clear hb hr5 cb cx c4 c5 c6 p6)
            go_quiet (fail)
            go_wp2
            go_quiet (fail)
            go_wp2
            go_quiet (fail)
            go_wp2
            go_roundw
            case rel => exact ⟨k + 1, by omega, by go_num, by rw [HCk.out], Lib.hid (by repeat (first | exact HB5.out | refine below_drewN ?_ _)), Lib.hid (by repeat (first | exact HRS5.out | refine rns_drew ?_ _)), Lib.hid HRow5.out⟩
            case measure => simp [intOf]; omega
      · obtain rfl : k = hs.length := by omega
        clear hlt hk
        have HBf := Lib.hid HB.out
        by_cases hw0 : wav = 0
        · have hb0 : (wav == 0) = true := by simpa using hw0
          have hz1 : wz ≤ 1 := by rw [HWz.out.2 hn0, HW0.out hw0]; omega
          clear hw0
          go_wp2
          go_ret
          exact ⟨rfl, HBf.out⟩
        · have hb0 : (wav == 0) = false := by simpa using hw0
          have hwp : 0 < wav := by omega
          have hcl := HCle.out hwp hs.length
          clear hw0
          go_wp2
          go_ret
          exact ⟨rfl, HBf.out⟩
  · have hn0' : ¬ (0 : Int) < (hs.length : Int) := by omega
    clear hwz1
    go_wp2_with (first | (go_at_call 32; refine (HR.out _ (below_alloc w _)).mono ?_; rintro e w1 ⟨g, rfl, hrs, hb⟩; have hr1 := row_below hb (by simp) (heap_new w (.cells #[.string ⟨nm.toArray⟩, .int .u64 mi, .int .u64 hO, .int .u64 da, .int .u64 mo, .int .u64 we, .bool ad, .bool aw, .slice sa sel.length sc, .int .i64 jit, .int .i64 wav, .int .i64 fai, .int .i64 par, .int .i64 dea, .int .i64 mis, .int .i64 bnd] 27)); have HR1 := Lib.hid hr1; have HRS1 := Lib.hid hrs; have HB1 := Lib.hid ((below_alloc w _).trans (hb.mono (by simp))); clear hb hr1 hrs) | (go_at_call 34; refine (HL.out _ (HT.out.later HB1.out)).mono ?_; rintro e w2 ⟨rfl, hb⟩; have hr2 := row_below hb (heap_lt HR1.out) HR1.out; have HR2 := Lib.hid hr2; have HRS2 := Lib.hid (HRS1.out.later hb); have HB2 := Lib.hid (HB1.out.trans (hb.mono HB1.out.size)); clear hb hr2) | (go_at_call 42; refine (HWa.out _ _ HRS2.out).mono ?_; rintro e w3 ⟨rfl, hb⟩; have hr3 := row_below hb (heap_lt HR2.out) HR2.out; have HRow0 := Lib.hid hr3; have HRS0 := Lib.hid (HRS2.out.later hb); have HB0 := Lib.hid (HB2.out.trans (hb.mono HB2.out.size)); clear hb hr3))
    clear HR1 HRS1 HB1 HR2 HRS2 HB2 HR HL HT HWa
    go_loopw [10, 11, 12, 13] (fun cnt i _ _ wr => ∃ k : Nat, k ≤ hs.length ∧ i = .int .i64 (k : Int) ∧ cnt = .int .i64 (CN k) ∧ Hid (Below w.heap.size w wr) ∧ Hid (Rns wr (some ⟨g, 0, none⟩) RS) ∧ Hid (wr.heap[w.heap.size]? = some (.cells #[.string ⟨nm.toArray⟩, .int .u64 mi, .int .u64 hO, .int .u64 da, .int .u64 mo, .int .u64 we, .bool ad, .bool aw, .slice sa sel.length sc, .int .i64 jit, .int .i64 wav, .int .i64 fai, .int .i64 par, .int .i64 dea, .int .i64 mis, .int .i64 bnd] 27 (0, 0)))) (fun _ i _ _ _ => hs.length - (intOf i).toNat)
    case atStart => exact ⟨0, Nat.zero_le _, rfl, by rw [HC0.out], HB0, HRS0, HRow0⟩
    case round =>
      obtain ⟨k, hk, rfl, rfl, HB, HRS, HRow⟩ := hrel
      clear HB0 HRS0 HRow0
      obtain ⟨cn0, cn1⟩ := HCbd.out k
      obtain ⟨cb, _⟩ := cells_of_heap HRow.out
      by_cases hlt : k < hs.length
      · exact absurd hlt (by omega)
      · obtain rfl : k = hs.length := by omega
        clear hlt hk
        have HBf := Lib.hid HB.out
        by_cases hw0 : wav = 0
        · have hb0 : (wav == 0) = true := by simpa using hw0
          have hz1 : wz ≤ 1 := by rw [HWz.out.1 (by omega)]; omega
          clear hw0
          go_wp2
          go_ret
          exact ⟨rfl, HBf.out⟩
        · have hb0 : (wav == 0) = false := by simpa using hw0
          have hwp : 0 < wav := by omega
          have hcl := HCle.out hwp hs.length
          clear hw0
          go_wp2
          go_ret
          exact ⟨rfl, HBf.out⟩
theorem law_keeps (j : Jb) (occ : Int) (A : Option Addr) (hs : List Int) (c : Nat) (w : World) (hj : j.Ok w) (ho : I64 occ) (hN : Nums w A hs) (hm : hs.length ≤ maxLen) (hT : Tb w) :
    Calls Tryz.prog 11 #[jobV j, .int .i64 occ, .slice A hs.length c] w fun e w' => e = .returned (.bool true) ∧ Below w.heap.size w w' := by
  cases hz : runsR j 1 occ hs with
  | error z => exact law_keeps_err j occ A hs c w hj ho hN hm hT z hz
  | ok L => exact law_keeps_ok j occ A hs c w hj ho hN hm hT L hz
end Go.Proofs.YtnikhhbnbeljeaaGreatDoor.PL
