/- The law ExecKills. -/
import Derived.Test.YtkdfkhebjhnbmaaExeOps
import Derived.Test.YtkdfkhebjhnbmaaHeld
import Derived.Deep.CutBlock
set_option linter.unusedSimpArgs false
set_option linter.unusedVariables false
namespace Go.Proofs.Ytkdfkhebjhnbmaa
open Go.ChangeShapes Go.WideShapes Go.ChangeAt Go.RowKit Go.Base Go.Que Go.Exe

section
variable {B x : Nat} {w w' : World} {slots started : Int} {L : List Rn}
theorem XL.keep (h : XL B w x slots started L) {e : Ending} {c : Int} (hp : NoPost c w e w') : XL B w' x slots started L ∧ Below B w w' := by
  obtain ⟨F, hx, hF, hB⟩ := h
  exact ⟨⟨F, hx.later hp.2, hF, Nat.le_trans hB hp.2.size⟩, hp.2.mono hB⟩
/-- Whether Start takes a run. -/
def CanStart (slots : Int) (L : List Rn) (k : Ky) (u now : Int) : Prop := now < u ∧ (∀ r ∈ L, r.key ≠ k) ∧ (L.length : Int) < slots
theorem why_not {k : Ky} {u now : Int} (h : ¬ CanStart slots L k u now) : ∃ c, whyNot slots L k u now c ∧ (c == 0) = false := by
  by_cases h1 : u ≤ now
  · exact ⟨190, .inl ⟨h1, rfl⟩, by decide⟩
  · by_cases h2 : ∃ r ∈ L, r.key = k
    · exact ⟨5, .inr (.inl ⟨⟨by omega, h2⟩, rfl⟩), by decide⟩
    · have h3 : ∀ r ∈ L, r.key ≠ k := fun r hr e => h2 ⟨r, hr, e⟩
      refine ⟨2, .inr (.inr ⟨⟨by omega, h3, ?_⟩, rfl⟩), by decide⟩
      by_cases h4 : (L.length : Int) < slots
      · exact absurd ⟨by omega, h3, h4⟩ h
      · omega
end
def StartYes (B x : Nat) (slots started : Int) (L : List Rn) (k : Ky) (u : Int) (w : World) (e : Ending) (w' : World) : Prop := e = .returned (.int .i64 0) ∧ XL B w' x slots (started + 1) (insR ⟨k, u, started + 1⟩ L) ∧ Below B w w'
def StartNo (B x : Nat) (slots started : Int) (L : List Rn) (c : Int) (w : World) (e : Ending) (w' : World) : Prop := e = .returned (.int .i64 c) ∧ XL B w' x slots started L ∧ Below B w w'
theorem opC_len (o : Xop) : (opC o).length = 6 := rfl
set_option maxHeartbeats 8000000 in
set_option maxRecDepth 20000 in
theorem law_kills (A : Option Addr) (l : List Xop) (c : Nat) (step : Int) (w : World) (hl : Elts 6 opC w A l) (hok : ∀ o ∈ l, o.Ok) (hm : l.length ≤ maxLen) (hst : i64 step) :
    Calls Try.prog 6 #[.slice A l.length c, .int .i64 step] w fun e w' => e = .returned (.bool true) ∧ Below w.heap.size w w' := by
  have HLi := Lib.hid (fun V => xlives V)
  have HN := Lib.hid (newX (slots := 9) (by omega) (by omega) w)
  obtain ⟨n, hn⟩ : ∃ n, n = l.length := ⟨_, rfl⟩
  rw [← hn] at hm ⊢
  have HL := Lib.hid hl
  have HLn := Lib.hid hn
  have HOk := Lib.hid hok
  have HSt := Lib.hid hst
  have hm0 : (n : Int) ≤ 9223372036854775807 := by unfold maxLen at hm; omega
  clear hl hn hok hst hm
  by_cases hs1 : step < 1
  · clear HL HLn HOk hm0
    go_enter Try.func6, Try.ntmps6
    have tL : True := trivial
    go_wp2_with (first
      | (go_at_call 7; refine Calls.mono (by with_reducible exact HN.out) ?_; rintro e w1 ⟨x, rfl, hx, hb⟩; have HX1 := Lib.hid hx; have HB1 := Lib.hid hb; clear hx hb)
      | (clear tL; go_at_call 9; refine Calls.mono (by with_reducible exact HLi.out _) ?_; rintro e w2 ⟨rfl, hb⟩; have HB2 := Lib.hid (HB1.out.trans (hb.mono HB1.out.size)); clear hb)
      | (go_at_call 9; refine Calls.mono (by with_reducible exact HLi.out _) ?_; rintro e w3 ⟨rfl, hb⟩; have HB3 := Lib.hid (HB2.out.trans (hb.mono HB2.out.size)); clear hb))
    go_ret
    exact ⟨rfl, HB3.out⟩
  by_cases hs2 : 100 < step
  · clear HL HLn HOk hm0
    go_enter Try.func6, Try.ntmps6
    have tL : True := trivial
    go_wp2_with (first
      | (go_at_call 7; refine Calls.mono (by with_reducible exact HN.out) ?_; rintro e w1 ⟨x, rfl, hx, hb⟩; have HX1 := Lib.hid hx; have HB1 := Lib.hid hb; clear hx hb)
      | (clear tL; go_at_call 9; refine Calls.mono (by with_reducible exact HLi.out _) ?_; rintro e w2 ⟨rfl, hb⟩; have HB2 := Lib.hid (HB1.out.trans (hb.mono HB1.out.size)); clear hb)
      | (go_at_call 9; refine Calls.mono (by with_reducible exact HLi.out _) ?_; rintro e w3 ⟨rfl, hb⟩; have HB3 := Lib.hid (HB2.out.trans (hb.mono HB2.out.size)); clear hb))
    go_ret
    exact ⟨rfl, HB3.out⟩
  go_enter Try.func6, Try.ntmps6
  go_upto_block 0 with (first
    | (go_at_call 7; refine Calls.mono (by with_reducible exact HN.out) ?_; rintro e w1 ⟨x, rfl, hx, hb⟩; have HX1 := Lib.hid hx; have HB1 := Lib.hid hb; clear hx hb)
    | (go_at_call 9; refine Calls.mono (by with_reducible exact HLi.out _) ?_; rintro e w2 ⟨rfl, hb⟩; have HX2 := Lib.hid (HX1.out.later hb); have HB2 := Lib.hid (HB1.out.trans (hb.mono HB1.out.size)); clear hb HX1))
  go_cut [7, 8] from 37 to 77 (fun nv iv wx => ∃ (s : Nat) (L : List Rn), nv = .int .i64 (L.length : Int) ∧ s ≤ 40 ∧ Hid (XL w.heap.size wx x 9 (s : Int) L) ∧ Hid (∀ r ∈ L, 0 < r.until_ ∧ r.until_ ≤ 1000) ∧ Hid (Below w.heap.size w wx))
  case first =>
    go_wp2_with fail
    go_loopw [7, 8] (fun nv iv wr => ∃ (k s : Nat) (L : List Rn), k ≤ n ∧ k ≤ 40 ∧ s ≤ k ∧ iv = .int .i64 (k : Int) ∧ nv = .int .i64 (L.length : Int) ∧ Hid (XL w.heap.size wr x 9 (s : Int) L) ∧ Hid (∀ r ∈ L, 0 < r.until_ ∧ r.until_ ≤ 1000) ∧ Hid (Below w.heap.size w wr)) (fun _ iv _ => n - (intOf iv).toNat)
    case atStart => exact ⟨0, 0, [], by omega, by omega, by omega, rfl, rfl, HX2, Lib.hid (fun r hr => by cases hr), HB2⟩
    case round =>
      clear HX2 HB2
      obtain ⟨k, s, L, hkn, hk40, hsk, rfl, rfl, HX, HU, HB⟩ := hrel
      have hkz : (0 : Int) ≤ (k : Int) := by omega
      have hfew : (L.length : Int) ≤ 9 := HX.out.ok.few
      have hfew0 : (0 : Int) ≤ (L.length : Int) := by omega
      by_cases hk1 : k < n
      · have hk1' : (k : Int) < (n : Int) := by omega
        by_cases hk2 : k < 40
        · have hk2' : (k : Int) < 40 := by omega
          have hh : k < l.length := by rw [← HLn.out]; exact hk1
          obtain ⟨g, o, hA, hc⟩ := HL.out k hh
          have HAt : Hid (∀ V, Below w.heap.size w V → V.cell? ⟨g, o + k * 6 + 1, none⟩ = some (.string l[k].key.job) ∧ V.cell? ⟨g, o + k * 6 + 2, none⟩ = some (.int .i64 l[k].key.occ) ∧ V.cell? ⟨g, o + k * 6 + 3, none⟩ = some (.int .i64 l[k].key.host) ∧ V.cell? ⟨g, o + k * 6 + 4, none⟩ = some (.int .i64 l[k].un)) := Lib.hid (fun V hV =>
            ⟨cell_later hV (hc 1 _ rfl), cell_later hV (hc 2 _ rfl), cell_later hV (hc 3 _ rfl), cell_later hV (hc 4 _ rfl)⟩)
          have hkok := HOk.out l[k] (List.getElem_mem hh)
          have hkf : kyfit l[k].key := hkok.1
          have huf : i64 l[k].un := hkok.2.1
          obtain ⟨key, hkey⟩ : ∃ a, a = l[k].key := ⟨_, rfl⟩
          obtain ⟨u, hu⟩ : ∃ a, a = l[k].un := ⟨_, rfl⟩
          rw [← hkey] at HAt hkf
          rw [← hu] at HAt huf
          have HKf := Lib.hid hkf
          have HUf := Lib.hid huf
          clear hkok hkey hu hc hh hkf huf
          subst hA
          obtain ⟨c1, c2, c3, c4⟩ := HAt.out _ HB.out
          by_cases hu1 : 0 < u
          · by_cases hu2 : u ≤ 1000
            · by_cases hcan : CanStart 9 L key u 0
              · have HSt : Hid (Calls Try.prog 10 #[.pointer (some ⟨x, 0, none⟩), .agg #[.string key.job, .int .i64 key.occ, .int .i64 key.host], .int .i64 u, .int .i64 0] wr.drew (StartYes w.heap.size x 9 (s : Int) L key u wr.drew)) :=
                  Lib.hid ((HX.out.later (Below.refl _ _).drew).start_ok HKf.out hcan.2.1 hu1 HUf.out hcan.2.2 (by omega))
                have HIn : Hid (∀ r ∈ insR ⟨key, u, (s : Int) + 1⟩ L, 0 < r.until_ ∧ r.until_ ≤ 1000) := Lib.hid (fun r hr => by
                  rcases mem_insR.1 hr with rfl | hr
                  · exact ⟨hu1, hu2⟩
                  · exact HU.out r hr)
                clear hcan
                obtain ⟨j, oc, ho⟩ := key
                go_wp2
                refine wp_region_held_drew (S := (fun V => V.cell? ⟨g, o + k * 6 + 1, none⟩ = some (.string j) ∧ V.cell? ⟨g, o + k * 6 + 2, none⟩ = some (.int .i64 oc) ∧ V.cell? ⟨g, o + k * 6 + 3, none⟩ = some (.int .i64 ho) ∧ V.cell? ⟨g, o + k * 6 + 4, none⟩ = some (.int .i64 u))) (by kernel_rfl) ⟨c1, c2, c3, c4⟩ (fun hHeld => ?_)
                refine wpAnyH_take (i := 0) (v := ?vv1) rfl (by kernel_rfl) (by kernel_rfl) (by kernel_rfl) (fun _ _ _ h => h) (Or.inl ⟨by rfl, ?hy1⟩) hHeld ?rr1
                case hy1 => (intro w' hSw; obtain ⟨g1, g2, g3, g4⟩ := hSw; go_simp; try with_reducible rfl)
                try simp only [Act.put, List.setIfInBounds_toArray, List.set_cons_zero, List.set_cons_succ, List.getElem_toArray, List.getElem_cons_succ, List.getElem_cons_zero]
                refine wpAnyH_take (i := 1) (v := ?vv2) rfl (by kernel_rfl) (by kernel_rfl) (by kernel_rfl) (fun _ _ _ h => h) (Or.inl ⟨by rfl, ?hy2⟩) hHeld ?rr2
                case hy2 => (intro w' hSw; obtain ⟨g1, g2, g3, g4⟩ := hSw; go_simp; try with_reducible rfl)
                try simp only [Act.put, List.setIfInBounds_toArray, List.set_cons_zero, List.set_cons_succ, List.getElem_toArray, List.getElem_cons_succ, List.getElem_cons_zero]
                refine wpAnyH_take (i := 2) (v := ?vv3) rfl (by kernel_rfl) (by kernel_rfl) (by kernel_rfl) (fun _ _ _ h => h) (Or.inl ⟨by rfl, ?hy3⟩) hHeld ?rr3
                case hy3 => (intro w' hSw; obtain ⟨g1, g2, g3, g4⟩ := hSw; go_simp; try with_reducible rfl)
                try simp only [Act.put, List.setIfInBounds_toArray, List.set_cons_zero, List.set_cons_succ, List.getElem_toArray, List.getElem_cons_succ, List.getElem_cons_zero]
                refine wpAnyH_take (i := 3) (v := ?vv4) rfl (by kernel_rfl) (by kernel_rfl) (by kernel_rfl) (fun _ _ _ h => h) (Or.inl ⟨by rfl, ?hy4⟩) hHeld ?rr4
                case hy4 => (intro w' hSw; obtain ⟨g1, g2, g3, g4⟩ := hSw; go_simp; try with_reducible rfl)
                try simp only [Act.put, List.setIfInBounds_toArray, List.set_cons_zero, List.set_cons_succ, List.getElem_toArray, List.getElem_cons_succ, List.getElem_cons_zero]
                refine wpAnyH_take (i := 4) (v := ?vv5) rfl (by kernel_rfl) (by kernel_rfl) (by kernel_rfl) (fun _ _ _ h => h) (Or.inl ⟨by rfl, ?hy5⟩) hHeld ?rr5
                case hy5 => (intro w' hSw; obtain ⟨g1, g2, g3, g4⟩ := hSw; go_simp; try with_reducible rfl)
                try simp only [Act.put, List.setIfInBounds_toArray, List.set_cons_zero, List.set_cons_succ, List.getElem_toArray, List.getElem_cons_succ, List.getElem_cons_zero]
                refine wpAnyH_take (i := 5) (v := ?vv6) rfl (by kernel_rfl) (by kernel_rfl) (by kernel_rfl) (fun _ _ _ h => h) (Or.inl ⟨by rfl, ?hy6⟩) hHeld ?rr6
                case hy6 => (intro w' hSw; obtain ⟨g1, g2, g3, g4⟩ := hSw; go_simp; try with_reducible rfl)
                try simp only [Act.put, List.setIfInBounds_toArray, List.set_cons_zero, List.set_cons_succ, List.getElem_toArray, List.getElem_cons_succ, List.getElem_cons_zero]
                refine wpAnyH_take (i := 6) (v := ?vv7) rfl (by kernel_rfl) (by kernel_rfl) (by kernel_rfl) (fun _ _ _ h => h) (Or.inl ⟨by rfl, ?hy7⟩) hHeld ?rr7
                case hy7 => (intro w' hSw; obtain ⟨g1, g2, g3, g4⟩ := hSw; go_simp; try with_reducible rfl)
                try simp only [Act.put, List.setIfInBounds_toArray, List.set_cons_zero, List.set_cons_succ, List.getElem_toArray, List.getElem_cons_succ, List.getElem_cons_zero]
                refine wpAnyH_take (i := 7) (v := ?vv8) rfl (by kernel_rfl) (by kernel_rfl) (by kernel_rfl) (fun _ _ _ h => h) (Or.inl ⟨by rfl, ?hy8⟩) hHeld ?rr8
                case hy8 => (intro w' hSw; obtain ⟨g1, g2, g3, g4⟩ := hSw; go_simp; try with_reducible rfl)
                try simp only [Act.put, List.setIfInBounds_toArray, List.set_cons_zero, List.set_cons_succ, List.getElem_toArray, List.getElem_cons_succ, List.getElem_cons_zero]
                refine wpAnyH_take (i := 8) (v := ?vv9) rfl (by kernel_rfl) (by kernel_rfl) (by kernel_rfl) (fun _ _ _ h => h) (Or.inl ⟨by rfl, ?hy9⟩) hHeld ?rr9
                case hy9 => (intro w' hSw; obtain ⟨g1, g2, g3, g4⟩ := hSw; go_simp; try with_reducible rfl)
                try simp only [Act.put, List.setIfInBounds_toArray, List.set_cons_zero, List.set_cons_succ, List.getElem_toArray, List.getElem_cons_succ, List.getElem_cons_zero]
                refine wpAnyH_take (i := 9) (v := ?vv10) rfl (by kernel_rfl) (by kernel_rfl) (by kernel_rfl) (fun _ _ _ h => h) (Or.inl ⟨by rfl, ?hy10⟩) hHeld ?rr10
                case hy10 => (intro w' hSw; obtain ⟨g1, g2, g3, g4⟩ := hSw; go_simp; try with_reducible rfl)
                try simp only [Act.put, List.setIfInBounds_toArray, List.set_cons_zero, List.set_cons_succ, List.getElem_toArray, List.getElem_cons_succ, List.getElem_cons_zero]
                refine wpAnyH_take (i := 10) (v := ?vv11) rfl (by kernel_rfl) (by kernel_rfl) (by kernel_rfl) (fun _ _ _ h => h) (Or.inl ⟨by rfl, ?hy11⟩) hHeld ?rr11
                case hy11 => (intro w' hSw; obtain ⟨g1, g2, g3, g4⟩ := hSw; go_simp; try with_reducible rfl)
                try simp only [Act.put, List.setIfInBounds_toArray, List.set_cons_zero, List.set_cons_succ, List.getElem_toArray, List.getElem_cons_succ, List.getElem_cons_zero]
                refine wpAnyH_take (i := 11) (v := ?vv12) rfl (by kernel_rfl) (by kernel_rfl) (by kernel_rfl) (fun _ _ _ h => h) (Or.inl ⟨by rfl, ?hy12⟩) hHeld ?rr12
                case hy12 => (intro w' hSw; obtain ⟨g1, g2, g3, g4⟩ := hSw; go_simp; try with_reducible rfl)
                try simp only [Act.put, List.setIfInBounds_toArray, List.set_cons_zero, List.set_cons_succ, List.getElem_toArray, List.getElem_cons_succ, List.getElem_cons_zero]
                refine wpAnyH_take (i := 12) (v := ?vv13) rfl (by kernel_rfl) (by kernel_rfl) (by kernel_rfl) (fun _ _ _ h => h) (Or.inl ⟨by rfl, ?hy13⟩) hHeld ?rr13
                case hy13 => (intro w' hSw; obtain ⟨g1, g2, g3, g4⟩ := hSw; go_simp; try with_reducible rfl)
                try simp only [Act.put, List.setIfInBounds_toArray, List.set_cons_zero, List.set_cons_succ, List.getElem_toArray, List.getElem_cons_succ, List.getElem_cons_zero]
                refine wpAnyH_take (i := 13) (v := ?vv14) rfl (by kernel_rfl) (by kernel_rfl) (by kernel_rfl) (fun _ _ _ h => h) (Or.inl ⟨by rfl, ?hy14⟩) hHeld ?rr14
                case hy14 => (intro w' hSw; obtain ⟨g1, g2, g3, g4⟩ := hSw; go_simp; try with_reducible rfl)
                try simp only [Act.put, List.setIfInBounds_toArray, List.set_cons_zero, List.set_cons_succ, List.getElem_toArray, List.getElem_cons_succ, List.getElem_cons_zero]
                refine wpAnyH_take (i := 14) (v := ?vv15) rfl (by kernel_rfl) (by kernel_rfl) (by kernel_rfl) (fun _ _ _ h => h) (Or.inl ⟨by rfl, ?hy15⟩) hHeld ?rr15
                case hy15 => (intro w' hSw; obtain ⟨g1, g2, g3, g4⟩ := hSw; go_simp; try with_reducible rfl)
                try simp only [Act.put, List.setIfInBounds_toArray, List.set_cons_zero, List.set_cons_succ, List.getElem_toArray, List.getElem_cons_succ, List.getElem_cons_zero]
                refine wpAnyH_take (i := 15) (v := ?vv16) rfl (by kernel_rfl) (by kernel_rfl) (by kernel_rfl) (fun _ _ _ h => h) (Or.inl ⟨by rfl, ?hy16⟩) hHeld ?rr16
                case hy16 => (intro w' hSw; obtain ⟨g1, g2, g3, g4⟩ := hSw; go_simp; try with_reducible rfl)
                try simp only [Act.put, List.setIfInBounds_toArray, List.set_cons_zero, List.set_cons_succ, List.getElem_toArray, List.getElem_cons_succ, List.getElem_cons_zero]
                refine wpAnyH_take (i := 16) (v := ?vv17) rfl (by kernel_rfl) (by kernel_rfl) (by kernel_rfl) (fun _ _ _ h => h) (Or.inl ⟨by rfl, ?hy17⟩) hHeld ?rr17
                case hy17 => (intro w' hSw; obtain ⟨g1, g2, g3, g4⟩ := hSw; go_simp; try with_reducible rfl)
                try simp only [Act.put, List.setIfInBounds_toArray, List.set_cons_zero, List.set_cons_succ, List.getElem_toArray, List.getElem_cons_succ, List.getElem_cons_zero]
                refine wpAnyH_take (i := 17) (v := ?vv18) rfl (by kernel_rfl) (by kernel_rfl) (by kernel_rfl) (fun _ _ _ h => h) (Or.inl ⟨by rfl, ?hy18⟩) hHeld ?rr18
                case hy18 => (intro w' hSw; obtain ⟨g1, g2, g3, g4⟩ := hSw; go_simp; try with_reducible rfl)
                try simp only [Act.put, List.setIfInBounds_toArray, List.set_cons_zero, List.set_cons_succ, List.getElem_toArray, List.getElem_cons_succ, List.getElem_cons_zero]
                refine wpAnyH_take (i := 18) (v := ?vv19) rfl (by kernel_rfl) (by kernel_rfl) (by kernel_rfl) (fun _ _ _ h => h) (Or.inl ⟨by rfl, ?hy19⟩) hHeld ?rr19
                case hy19 => (intro w' hSw; obtain ⟨g1, g2, g3, g4⟩ := hSw; go_simp; try with_reducible rfl)
                try simp only [Act.put, List.setIfInBounds_toArray, List.set_cons_zero, List.set_cons_succ, List.getElem_toArray, List.getElem_cons_succ, List.getElem_cons_zero]
                refine wpAnyH_take (i := 19) (v := ?vv20) rfl (by kernel_rfl) (by kernel_rfl) (by kernel_rfl) (fun _ _ _ h => h) (Or.inl ⟨by rfl, ?hy20⟩) hHeld ?rr20
                case hy20 => (intro w' hSw; obtain ⟨g1, g2, g3, g4⟩ := hSw; go_simp; try with_reducible rfl)
                try simp only [Act.put, List.setIfInBounds_toArray, List.set_cons_zero, List.set_cons_succ, List.getElem_toArray, List.getElem_cons_succ, List.getElem_cons_zero]
                refine wpAnyH_take (i := 20) (v := ?vv21) rfl (by kernel_rfl) (by kernel_rfl) (by kernel_rfl) (fun _ _ _ h => h) (Or.inl ⟨by rfl, ?hy21⟩) hHeld ?rr21
                case hy21 => (intro w' hSw; obtain ⟨g1, g2, g3, g4⟩ := hSw; go_simp; try with_reducible rfl)
                try simp only [Act.put, List.setIfInBounds_toArray, List.set_cons_zero, List.set_cons_succ, List.getElem_toArray, List.getElem_cons_succ, List.getElem_cons_zero]
                refine wpAnyH_take (i := 21) (v := ?vv22) rfl (by kernel_rfl) (by kernel_rfl) (by kernel_rfl) (fun _ _ _ h => h) (Or.inl ⟨by rfl, ?hy22⟩) hHeld ?rr22
                case hy22 => (intro w' hSw; obtain ⟨g1, g2, g3, g4⟩ := hSw; go_simp; try with_reducible rfl)
                try simp only [Act.put, List.setIfInBounds_toArray, List.set_cons_zero, List.set_cons_succ, List.getElem_toArray, List.getElem_cons_succ, List.getElem_cons_zero]
                refine wpAnyH_take (i := 22) (v := ?vv23) rfl (by kernel_rfl) (by kernel_rfl) (by kernel_rfl) (fun _ _ _ h => h) (Or.inl ⟨by rfl, ?hy23⟩) hHeld ?rr23
                case hy23 => (intro w' hSw; obtain ⟨g1, g2, g3, g4⟩ := hSw; go_simp; try with_reducible rfl)
                try simp only [Act.put, List.setIfInBounds_toArray, List.set_cons_zero, List.set_cons_succ, List.getElem_toArray, List.getElem_cons_succ, List.getElem_cons_zero]
                refine wpAnyH_take (i := 23) (v := ?vv24) rfl (by kernel_rfl) (by kernel_rfl) (by kernel_rfl) (fun _ _ _ h => h) (Or.inl ⟨by rfl, ?hy24⟩) hHeld ?rr24
                case hy24 => (intro w' hSw; obtain ⟨g1, g2, g3, g4⟩ := hSw; go_simp; try with_reducible rfl)
                try simp only [Act.put, List.setIfInBounds_toArray, List.set_cons_zero, List.set_cons_succ, List.getElem_toArray, List.getElem_cons_succ, List.getElem_cons_zero]
                refine wpAnyH_take (i := 24) (v := ?vv25) rfl (by kernel_rfl) (by kernel_rfl) (by kernel_rfl) (fun _ _ _ h => h) (Or.inl ⟨by rfl, ?hy25⟩) hHeld ?rr25
                case hy25 => (intro w' hSw; obtain ⟨g1, g2, g3, g4⟩ := hSw; go_simp; try with_reducible rfl)
                try simp only [Act.put, List.setIfInBounds_toArray, List.set_cons_zero, List.set_cons_succ, List.getElem_toArray, List.getElem_cons_succ, List.getElem_cons_zero]
                refine wpAnyH_take (i := 25) (v := ?vv26) rfl (by kernel_rfl) (by kernel_rfl) (by kernel_rfl) (fun _ _ _ h => h) (Or.inl ⟨by rfl, ?hy26⟩) hHeld ?rr26
                case hy26 => (intro w' hSw; obtain ⟨g1, g2, g3, g4⟩ := hSw; go_simp; try with_reducible rfl)
                try simp only [Act.put, List.setIfInBounds_toArray, List.set_cons_zero, List.set_cons_succ, List.getElem_toArray, List.getElem_cons_succ, List.getElem_cons_zero]
                refine wpAnyH_ready (rs := [26]) (by kernel_rfl) (by simp) ?_
                refine AllReadyH.cons rfl (fun K hK => ?_) AllReadyH.nil
                try rw [if_pos (by rfl)]
                go_simp
                go_at_call 10
                refine Calls.mono (by with_reducible exact HSt.out) ?_
                rintro en w5 ⟨rfl, hx5, hb5⟩
                have HX5 := Lib.hid hx5
                have HB5 : Hid (Below w.heap.size w w5) := Lib.hid (HB.out.drew.trans hb5)
                clear hx5 hb5
                go_wp2_with fail
                refine hK.out _ _ (HAt.out _ HB5.out) (fun hHeld2 => ?_)
                clear hK K hHeld
                have hHeld := hHeld2
                clear hHeld2
                try simp only [Act.put, List.setIfInBounds_toArray, List.set_cons_zero, List.set_cons_succ, List.getElem_toArray, List.getElem_cons_succ, List.getElem_cons_zero]
                refine wpAnyH_take (i := 27) (v := ?vv27) rfl (by kernel_rfl) (by kernel_rfl) (by kernel_rfl) (fun _ _ _ h => h) (Or.inl ⟨by rfl, ?hy27⟩) hHeld ?rr27
                case hy27 => (intro w' hSw; obtain ⟨g1, g2, g3, g4⟩ := hSw; go_simp; try with_reducible rfl)
                try simp only [Act.put, List.setIfInBounds_toArray, List.set_cons_zero, List.set_cons_succ, List.getElem_toArray, List.getElem_cons_succ, List.getElem_cons_zero]
                refine wpAnyH_take (i := 28) (v := ?vv28) rfl (by kernel_rfl) (by kernel_rfl) (by kernel_rfl) (fun _ _ _ h => h) (Or.inl ⟨by rfl, ?hy28⟩) hHeld ?rr28
                case hy28 => (intro w' hSw; obtain ⟨g1, g2, g3, g4⟩ := hSw; go_simp; try with_reducible rfl)
                try simp only [Act.put, List.setIfInBounds_toArray, List.set_cons_zero, List.set_cons_succ, List.getElem_toArray, List.getElem_cons_succ, List.getElem_cons_zero]
                refine wpAnyH_done (by kernel_rfl) ?_ _
                clear hHeld
                go_wp2
                go_roundw
                case rel => exact ⟨k + 1, s + 1, _, by omega, by omega, by omega, by go_num, by rw [len_insR]; go_num, HX5, HIn, HB5⟩
                case measure => simp [intOf]; omega
              · obtain ⟨cd, hwhy, hcd⟩ := why_not hcan
                have HSt : Hid (Calls Try.prog 10 #[.pointer (some ⟨x, 0, none⟩), .agg #[.string key.job, .int .i64 key.occ, .int .i64 key.host], .int .i64 u, .int .i64 0] wr.drew (StartNo w.heap.size x 9 (s : Int) L cd wr.drew)) :=
                  Lib.hid (((HX.out.later (Below.refl _ _).drew).start_no HKf.out hwhy).mono fun e w' hp => ⟨hp.1, (HX.out.later (Below.refl _ _).drew).keep hp⟩)
                clear hcan hwhy
                obtain ⟨j, oc, ho⟩ := key
                go_wp2
                refine wp_region_held_drew (S := (fun V => V.cell? ⟨g, o + k * 6 + 1, none⟩ = some (.string j) ∧ V.cell? ⟨g, o + k * 6 + 2, none⟩ = some (.int .i64 oc) ∧ V.cell? ⟨g, o + k * 6 + 3, none⟩ = some (.int .i64 ho) ∧ V.cell? ⟨g, o + k * 6 + 4, none⟩ = some (.int .i64 u))) (by kernel_rfl) ⟨c1, c2, c3, c4⟩ (fun hHeld => ?_)
                refine wpAnyH_take (i := 0) (v := ?vv29) rfl (by kernel_rfl) (by kernel_rfl) (by kernel_rfl) (fun _ _ _ h => h) (Or.inl ⟨by rfl, ?hy29⟩) hHeld ?rr29
                case hy29 => (intro w' hSw; obtain ⟨g1, g2, g3, g4⟩ := hSw; go_simp; try with_reducible rfl)
                try simp only [Act.put, List.setIfInBounds_toArray, List.set_cons_zero, List.set_cons_succ, List.getElem_toArray, List.getElem_cons_succ, List.getElem_cons_zero]
                refine wpAnyH_take (i := 1) (v := ?vv30) rfl (by kernel_rfl) (by kernel_rfl) (by kernel_rfl) (fun _ _ _ h => h) (Or.inl ⟨by rfl, ?hy30⟩) hHeld ?rr30
                case hy30 => (intro w' hSw; obtain ⟨g1, g2, g3, g4⟩ := hSw; go_simp; try with_reducible rfl)
                try simp only [Act.put, List.setIfInBounds_toArray, List.set_cons_zero, List.set_cons_succ, List.getElem_toArray, List.getElem_cons_succ, List.getElem_cons_zero]
                refine wpAnyH_take (i := 2) (v := ?vv31) rfl (by kernel_rfl) (by kernel_rfl) (by kernel_rfl) (fun _ _ _ h => h) (Or.inl ⟨by rfl, ?hy31⟩) hHeld ?rr31
                case hy31 => (intro w' hSw; obtain ⟨g1, g2, g3, g4⟩ := hSw; go_simp; try with_reducible rfl)
                try simp only [Act.put, List.setIfInBounds_toArray, List.set_cons_zero, List.set_cons_succ, List.getElem_toArray, List.getElem_cons_succ, List.getElem_cons_zero]
                refine wpAnyH_take (i := 3) (v := ?vv32) rfl (by kernel_rfl) (by kernel_rfl) (by kernel_rfl) (fun _ _ _ h => h) (Or.inl ⟨by rfl, ?hy32⟩) hHeld ?rr32
                case hy32 => (intro w' hSw; obtain ⟨g1, g2, g3, g4⟩ := hSw; go_simp; try with_reducible rfl)
                try simp only [Act.put, List.setIfInBounds_toArray, List.set_cons_zero, List.set_cons_succ, List.getElem_toArray, List.getElem_cons_succ, List.getElem_cons_zero]
                refine wpAnyH_take (i := 4) (v := ?vv33) rfl (by kernel_rfl) (by kernel_rfl) (by kernel_rfl) (fun _ _ _ h => h) (Or.inl ⟨by rfl, ?hy33⟩) hHeld ?rr33
                case hy33 => (intro w' hSw; obtain ⟨g1, g2, g3, g4⟩ := hSw; go_simp; try with_reducible rfl)
                try simp only [Act.put, List.setIfInBounds_toArray, List.set_cons_zero, List.set_cons_succ, List.getElem_toArray, List.getElem_cons_succ, List.getElem_cons_zero]
                refine wpAnyH_take (i := 5) (v := ?vv34) rfl (by kernel_rfl) (by kernel_rfl) (by kernel_rfl) (fun _ _ _ h => h) (Or.inl ⟨by rfl, ?hy34⟩) hHeld ?rr34
                case hy34 => (intro w' hSw; obtain ⟨g1, g2, g3, g4⟩ := hSw; go_simp; try with_reducible rfl)
                try simp only [Act.put, List.setIfInBounds_toArray, List.set_cons_zero, List.set_cons_succ, List.getElem_toArray, List.getElem_cons_succ, List.getElem_cons_zero]
                refine wpAnyH_take (i := 6) (v := ?vv35) rfl (by kernel_rfl) (by kernel_rfl) (by kernel_rfl) (fun _ _ _ h => h) (Or.inl ⟨by rfl, ?hy35⟩) hHeld ?rr35
                case hy35 => (intro w' hSw; obtain ⟨g1, g2, g3, g4⟩ := hSw; go_simp; try with_reducible rfl)
                try simp only [Act.put, List.setIfInBounds_toArray, List.set_cons_zero, List.set_cons_succ, List.getElem_toArray, List.getElem_cons_succ, List.getElem_cons_zero]
                refine wpAnyH_take (i := 7) (v := ?vv36) rfl (by kernel_rfl) (by kernel_rfl) (by kernel_rfl) (fun _ _ _ h => h) (Or.inl ⟨by rfl, ?hy36⟩) hHeld ?rr36
                case hy36 => (intro w' hSw; obtain ⟨g1, g2, g3, g4⟩ := hSw; go_simp; try with_reducible rfl)
                try simp only [Act.put, List.setIfInBounds_toArray, List.set_cons_zero, List.set_cons_succ, List.getElem_toArray, List.getElem_cons_succ, List.getElem_cons_zero]
                refine wpAnyH_take (i := 8) (v := ?vv37) rfl (by kernel_rfl) (by kernel_rfl) (by kernel_rfl) (fun _ _ _ h => h) (Or.inl ⟨by rfl, ?hy37⟩) hHeld ?rr37
                case hy37 => (intro w' hSw; obtain ⟨g1, g2, g3, g4⟩ := hSw; go_simp; try with_reducible rfl)
                try simp only [Act.put, List.setIfInBounds_toArray, List.set_cons_zero, List.set_cons_succ, List.getElem_toArray, List.getElem_cons_succ, List.getElem_cons_zero]
                refine wpAnyH_take (i := 9) (v := ?vv38) rfl (by kernel_rfl) (by kernel_rfl) (by kernel_rfl) (fun _ _ _ h => h) (Or.inl ⟨by rfl, ?hy38⟩) hHeld ?rr38
                case hy38 => (intro w' hSw; obtain ⟨g1, g2, g3, g4⟩ := hSw; go_simp; try with_reducible rfl)
                try simp only [Act.put, List.setIfInBounds_toArray, List.set_cons_zero, List.set_cons_succ, List.getElem_toArray, List.getElem_cons_succ, List.getElem_cons_zero]
                refine wpAnyH_take (i := 10) (v := ?vv39) rfl (by kernel_rfl) (by kernel_rfl) (by kernel_rfl) (fun _ _ _ h => h) (Or.inl ⟨by rfl, ?hy39⟩) hHeld ?rr39
                case hy39 => (intro w' hSw; obtain ⟨g1, g2, g3, g4⟩ := hSw; go_simp; try with_reducible rfl)
                try simp only [Act.put, List.setIfInBounds_toArray, List.set_cons_zero, List.set_cons_succ, List.getElem_toArray, List.getElem_cons_succ, List.getElem_cons_zero]
                refine wpAnyH_take (i := 11) (v := ?vv40) rfl (by kernel_rfl) (by kernel_rfl) (by kernel_rfl) (fun _ _ _ h => h) (Or.inl ⟨by rfl, ?hy40⟩) hHeld ?rr40
                case hy40 => (intro w' hSw; obtain ⟨g1, g2, g3, g4⟩ := hSw; go_simp; try with_reducible rfl)
                try simp only [Act.put, List.setIfInBounds_toArray, List.set_cons_zero, List.set_cons_succ, List.getElem_toArray, List.getElem_cons_succ, List.getElem_cons_zero]
                refine wpAnyH_take (i := 12) (v := ?vv41) rfl (by kernel_rfl) (by kernel_rfl) (by kernel_rfl) (fun _ _ _ h => h) (Or.inl ⟨by rfl, ?hy41⟩) hHeld ?rr41
                case hy41 => (intro w' hSw; obtain ⟨g1, g2, g3, g4⟩ := hSw; go_simp; try with_reducible rfl)
                try simp only [Act.put, List.setIfInBounds_toArray, List.set_cons_zero, List.set_cons_succ, List.getElem_toArray, List.getElem_cons_succ, List.getElem_cons_zero]
                refine wpAnyH_take (i := 13) (v := ?vv42) rfl (by kernel_rfl) (by kernel_rfl) (by kernel_rfl) (fun _ _ _ h => h) (Or.inl ⟨by rfl, ?hy42⟩) hHeld ?rr42
                case hy42 => (intro w' hSw; obtain ⟨g1, g2, g3, g4⟩ := hSw; go_simp; try with_reducible rfl)
                try simp only [Act.put, List.setIfInBounds_toArray, List.set_cons_zero, List.set_cons_succ, List.getElem_toArray, List.getElem_cons_succ, List.getElem_cons_zero]
                refine wpAnyH_take (i := 14) (v := ?vv43) rfl (by kernel_rfl) (by kernel_rfl) (by kernel_rfl) (fun _ _ _ h => h) (Or.inl ⟨by rfl, ?hy43⟩) hHeld ?rr43
                case hy43 => (intro w' hSw; obtain ⟨g1, g2, g3, g4⟩ := hSw; go_simp; try with_reducible rfl)
                try simp only [Act.put, List.setIfInBounds_toArray, List.set_cons_zero, List.set_cons_succ, List.getElem_toArray, List.getElem_cons_succ, List.getElem_cons_zero]
                refine wpAnyH_take (i := 15) (v := ?vv44) rfl (by kernel_rfl) (by kernel_rfl) (by kernel_rfl) (fun _ _ _ h => h) (Or.inl ⟨by rfl, ?hy44⟩) hHeld ?rr44
                case hy44 => (intro w' hSw; obtain ⟨g1, g2, g3, g4⟩ := hSw; go_simp; try with_reducible rfl)
                try simp only [Act.put, List.setIfInBounds_toArray, List.set_cons_zero, List.set_cons_succ, List.getElem_toArray, List.getElem_cons_succ, List.getElem_cons_zero]
                refine wpAnyH_take (i := 16) (v := ?vv45) rfl (by kernel_rfl) (by kernel_rfl) (by kernel_rfl) (fun _ _ _ h => h) (Or.inl ⟨by rfl, ?hy45⟩) hHeld ?rr45
                case hy45 => (intro w' hSw; obtain ⟨g1, g2, g3, g4⟩ := hSw; go_simp; try with_reducible rfl)
                try simp only [Act.put, List.setIfInBounds_toArray, List.set_cons_zero, List.set_cons_succ, List.getElem_toArray, List.getElem_cons_succ, List.getElem_cons_zero]
                refine wpAnyH_take (i := 17) (v := ?vv46) rfl (by kernel_rfl) (by kernel_rfl) (by kernel_rfl) (fun _ _ _ h => h) (Or.inl ⟨by rfl, ?hy46⟩) hHeld ?rr46
                case hy46 => (intro w' hSw; obtain ⟨g1, g2, g3, g4⟩ := hSw; go_simp; try with_reducible rfl)
                try simp only [Act.put, List.setIfInBounds_toArray, List.set_cons_zero, List.set_cons_succ, List.getElem_toArray, List.getElem_cons_succ, List.getElem_cons_zero]
                refine wpAnyH_take (i := 18) (v := ?vv47) rfl (by kernel_rfl) (by kernel_rfl) (by kernel_rfl) (fun _ _ _ h => h) (Or.inl ⟨by rfl, ?hy47⟩) hHeld ?rr47
                case hy47 => (intro w' hSw; obtain ⟨g1, g2, g3, g4⟩ := hSw; go_simp; try with_reducible rfl)
                try simp only [Act.put, List.setIfInBounds_toArray, List.set_cons_zero, List.set_cons_succ, List.getElem_toArray, List.getElem_cons_succ, List.getElem_cons_zero]
                refine wpAnyH_take (i := 19) (v := ?vv48) rfl (by kernel_rfl) (by kernel_rfl) (by kernel_rfl) (fun _ _ _ h => h) (Or.inl ⟨by rfl, ?hy48⟩) hHeld ?rr48
                case hy48 => (intro w' hSw; obtain ⟨g1, g2, g3, g4⟩ := hSw; go_simp; try with_reducible rfl)
                try simp only [Act.put, List.setIfInBounds_toArray, List.set_cons_zero, List.set_cons_succ, List.getElem_toArray, List.getElem_cons_succ, List.getElem_cons_zero]
                refine wpAnyH_take (i := 20) (v := ?vv49) rfl (by kernel_rfl) (by kernel_rfl) (by kernel_rfl) (fun _ _ _ h => h) (Or.inl ⟨by rfl, ?hy49⟩) hHeld ?rr49
                case hy49 => (intro w' hSw; obtain ⟨g1, g2, g3, g4⟩ := hSw; go_simp; try with_reducible rfl)
                try simp only [Act.put, List.setIfInBounds_toArray, List.set_cons_zero, List.set_cons_succ, List.getElem_toArray, List.getElem_cons_succ, List.getElem_cons_zero]
                refine wpAnyH_take (i := 21) (v := ?vv50) rfl (by kernel_rfl) (by kernel_rfl) (by kernel_rfl) (fun _ _ _ h => h) (Or.inl ⟨by rfl, ?hy50⟩) hHeld ?rr50
                case hy50 => (intro w' hSw; obtain ⟨g1, g2, g3, g4⟩ := hSw; go_simp; try with_reducible rfl)
                try simp only [Act.put, List.setIfInBounds_toArray, List.set_cons_zero, List.set_cons_succ, List.getElem_toArray, List.getElem_cons_succ, List.getElem_cons_zero]
                refine wpAnyH_take (i := 22) (v := ?vv51) rfl (by kernel_rfl) (by kernel_rfl) (by kernel_rfl) (fun _ _ _ h => h) (Or.inl ⟨by rfl, ?hy51⟩) hHeld ?rr51
                case hy51 => (intro w' hSw; obtain ⟨g1, g2, g3, g4⟩ := hSw; go_simp; try with_reducible rfl)
                try simp only [Act.put, List.setIfInBounds_toArray, List.set_cons_zero, List.set_cons_succ, List.getElem_toArray, List.getElem_cons_succ, List.getElem_cons_zero]
                refine wpAnyH_take (i := 23) (v := ?vv52) rfl (by kernel_rfl) (by kernel_rfl) (by kernel_rfl) (fun _ _ _ h => h) (Or.inl ⟨by rfl, ?hy52⟩) hHeld ?rr52
                case hy52 => (intro w' hSw; obtain ⟨g1, g2, g3, g4⟩ := hSw; go_simp; try with_reducible rfl)
                try simp only [Act.put, List.setIfInBounds_toArray, List.set_cons_zero, List.set_cons_succ, List.getElem_toArray, List.getElem_cons_succ, List.getElem_cons_zero]
                refine wpAnyH_take (i := 24) (v := ?vv53) rfl (by kernel_rfl) (by kernel_rfl) (by kernel_rfl) (fun _ _ _ h => h) (Or.inl ⟨by rfl, ?hy53⟩) hHeld ?rr53
                case hy53 => (intro w' hSw; obtain ⟨g1, g2, g3, g4⟩ := hSw; go_simp; try with_reducible rfl)
                try simp only [Act.put, List.setIfInBounds_toArray, List.set_cons_zero, List.set_cons_succ, List.getElem_toArray, List.getElem_cons_succ, List.getElem_cons_zero]
                refine wpAnyH_take (i := 25) (v := ?vv54) rfl (by kernel_rfl) (by kernel_rfl) (by kernel_rfl) (fun _ _ _ h => h) (Or.inl ⟨by rfl, ?hy54⟩) hHeld ?rr54
                case hy54 => (intro w' hSw; obtain ⟨g1, g2, g3, g4⟩ := hSw; go_simp; try with_reducible rfl)
                try simp only [Act.put, List.setIfInBounds_toArray, List.set_cons_zero, List.set_cons_succ, List.getElem_toArray, List.getElem_cons_succ, List.getElem_cons_zero]
                refine wpAnyH_ready (rs := [26]) (by kernel_rfl) (by simp) ?_
                refine AllReadyH.cons rfl (fun K hK => ?_) AllReadyH.nil
                try rw [if_pos (by rfl)]
                go_simp
                go_at_call 10
                refine Calls.mono (by with_reducible exact HSt.out) ?_
                rintro en w5 ⟨rfl, hx5, hb5⟩
                have HX5 := Lib.hid hx5
                have HB5 : Hid (Below w.heap.size w w5) := Lib.hid (HB.out.drew.trans hb5)
                clear hx5 hb5
                go_wp2_with fail
                refine hK.out _ _ (HAt.out _ HB5.out) (fun hHeld2 => ?_)
                clear hK K hHeld
                have hHeld := hHeld2
                clear hHeld2
                try simp only [Act.put, List.setIfInBounds_toArray, List.set_cons_zero, List.set_cons_succ, List.getElem_toArray, List.getElem_cons_succ, List.getElem_cons_zero]
                refine wpAnyH_take (i := 27) (v := ?vv55) rfl (by kernel_rfl) (by kernel_rfl) (by kernel_rfl) (fun _ _ _ h => h) (Or.inl ⟨by rfl, ?hy55⟩) hHeld ?rr55
                case hy55 => (intro w' hSw; obtain ⟨g1, g2, g3, g4⟩ := hSw; go_simp; try with_reducible rfl)
                try simp only [Act.put, List.setIfInBounds_toArray, List.set_cons_zero, List.set_cons_succ, List.getElem_toArray, List.getElem_cons_succ, List.getElem_cons_zero]
                refine wpAnyH_take (i := 28) (v := ?vv56) rfl (by kernel_rfl) (by kernel_rfl) (by kernel_rfl) (fun _ _ _ h => h) (Or.inl ⟨by rfl, ?hy56⟩) hHeld ?rr56
                case hy56 => (intro w' hSw; obtain ⟨g1, g2, g3, g4⟩ := hSw; go_simp; try with_reducible rfl)
                try simp only [Act.put, List.setIfInBounds_toArray, List.set_cons_zero, List.set_cons_succ, List.getElem_toArray, List.getElem_cons_succ, List.getElem_cons_zero]
                refine wpAnyH_done (by kernel_rfl) ?_ _
                clear hHeld
                go_wp2
                go_roundw
                case rel => exact ⟨k + 1, s, L, by omega, by omega, by omega, by go_num, rfl, HX5, HU, HB5⟩
                case measure => simp [intOf]; omega
            · have hu3 : decide (u ≤ 1000) = false := by rw [decide_eq_false_iff_not]; exact hu2
              go_wp2
              go_quiet (fail)
              go_wp2
              go_roundw
              case rel => exact ⟨k + 1, s, L, by omega, by omega, by omega, by go_num, rfl, Lib.hid (HX.out.later (below_drewN (Below.refl _ _) _)), HU, Lib.hid (below_drewN HB.out _)⟩
              case measure => simp [intOf]; omega
          · have hu3 : decide (0 < u) = false := by rw [decide_eq_false_iff_not]; exact hu1
            go_wp2
            go_quiet (fail)
            go_wp2
            go_roundw
            case rel => exact ⟨k + 1, s, L, by omega, by omega, by omega, by go_num, rfl, Lib.hid (HX.out.later (below_drewN (Below.refl _ _) _)), HU, Lib.hid (below_drewN HB.out _)⟩
            case measure => simp [intOf]; omega
        · have hk2' : ¬ (k : Int) < 40 := by omega
          go_wp2
          go_meet
          exact ⟨s, L, rfl, by omega, HX, HU, HB⟩
      · have hk1' : ¬ (k : Int) < (n : Int) := by omega
        go_wp2
        go_meet
        exact ⟨s, L, rfl, by omega, HX, HU, HB⟩
  case rest =>
    obtain ⟨s, L, rfl, hs40, HX, HU, HB⟩ := hcut
    clear HL HLn HOk HLi HN HX2 HB2 hm0
    obtain ⟨N, hN⟩ : ∃ N, N = L.length := ⟨_, rfl⟩
    have hN9 : (N : Int) ≤ 9 := by rw [hN]; exact HX.out.ok.few
    have hN0 : (0 : Int) ≤ (N : Int) := by omega
    have HNl := Lib.hid hN
    rw [← hN]
    clear hN
    go_wp2_with fail
    go_loopw [9, 10, 11] (fun lv kv nv wr => ∃ (R : List Rn) (now last : Int) (kd : Nat), lv = .int .i64 last ∧ kv = .int .i64 (kd : Int) ∧ nv = .int .i64 now ∧ 0 ≤ now ∧ now ≤ 1000 + step + step ∧ kd ≤ N ∧ Hid (kd + R.length = N) ∧ Hid (XL w.heap.size wr x 9 (s : Int) R) ∧ Hid (∀ r ∈ R, now - step < r.until_ ∧ last ≤ r.until_ ∧ r.until_ ≤ 1000) ∧ Hid (Below w.heap.size w wr)) (fun _ _ nv _ => (1001 + step - intOf nv).toNat)
    case atStart => exact ⟨L, 0, 0, 0, rfl, rfl, rfl, by omega, by omega, by omega, Lib.hid (by rw [HNl.out]; omega), HX, Lib.hid (fun r hr => by have := HU.out r hr; omega), HB⟩
    case round =>
      clear HX HU HB HNl
      obtain ⟨R, now, last, kd, rfl, rfl, rfl, hn0, hn1, hkd, HK, HX, HU, HB⟩ := hrel
      have hkd0 : (0 : Int) ≤ (kd : Int) := by omega
      by_cases hgo : now ≤ 1000 + step
      · have HP := Lib.hid (HX.out.kill now)
        have hAsc := HX.out.ok.asc
        have HAsc := Lib.hid hAsc
        clear hAsc
        go_wp2_with (go_at_call 15; refine Calls.mono (by with_reducible exact HP.out) ?_; rintro en w3 ⟨done, rest, A3, c3, F, hR, hd1, hd2, rfl, ho, hx, hF, hB, hdis, hb⟩; have HR := Lib.hid hR; have HD1 := Lib.hid hd1; have HD2 := Lib.hid hd2; have HO := Lib.hid ho; have HX3 : Hid (XL w.heap.size w3 x 9 (s : Int) rest) := Lib.hid ⟨F, hx, hF, hB⟩; have HB3 := Lib.hid (HB.out.trans hb); obtain ⟨dn, hdn⟩ : ∃ dn, dn = done.length := ⟨_, rfl⟩; have hkk := HK.out; rw [hR, List.length_append] at hkk; have hdn9 : kd + dn ≤ N := (by omega); have HKK : Hid (kd + dn + rest.length = N) := Lib.hid (by omega); rw [← hdn]; have HDn := Lib.hid hdn; clear hR hd1 hd2 ho hx hF hB hdis hb hdn hkk HX HK HP)
        have HU2 : Hid (∀ r ∈ done, now - step < r.until_) := Lib.hid (fun r hr => (HU.out r (by rw [HR.out]; exact List.mem_append_left _ hr)).1)
        have HU3 : Hid (∀ r ∈ rest, r.until_ ≤ 1000) := Lib.hid (fun r hr => (HU.out r (by rw [HR.out]; exact List.mem_append_right _ hr)).2.2)
        have HU4 : Hid (∀ r ∈ done ++ rest, last ≤ r.until_) := Lib.hid (fun r hr => (HU.out r (by rw [HR.out]; exact hr)).2.1)
        have HAs : Hid ((done ++ rest).Pairwise ltR) := Lib.hid (by have h := HAsc.out; rw [HR.out] at h; exact h)
        obtain ⟨W3, hW3⟩ : ∃ W3, W3 = w3 := ⟨_, rfl⟩
        rw [← hW3] at HO HX3 HB3 ⊢
        clear HU HB HAsc HR hW3
        go_loopw [9, 10, 13] (fun lv kv iv wq => ∃ (i : Nat) (la : Int), i ≤ dn ∧ iv = .int .i64 (i : Int) ∧ kv = .int .i64 ((kd : Int) + (i : Int)) ∧ lv = .int .i64 la ∧ wq = W3 ∧ Hid (∀ r ∈ done.drop i ++ rest, la ≤ r.until_)) (fun _ _ iv _ => dn - (intOf iv).toNat)
        case atStart => exact ⟨0, last, by omega, rfl, by go_num, rfl, rfl, HU4⟩
        case round =>
          clear HU4
          obtain ⟨i, la, hi, rfl, rfl, rfl, rfl, HLa⟩ := hrel
          have hi0 : (0 : Int) ≤ (i : Int) := by omega
          by_cases hid : i < dn
          · have hid' : (i : Int) < (dn : Int) := by omega
            have hil : i < done.length := by rw [← HDn.out]; exact hid
            obtain ⟨g, hA3, hc⟩ := row_cell HO.out hil rfl
            have c3 : wr.cell? ⟨g, i * 4 + 3, none⟩ = some (.int .i64 done[i].until_) := (hc 3 (by omega)).trans rfl
            have hdrop : done.drop i = done[i] :: done.drop (i + 1) := List.drop_eq_getElem_cons hil
            have hmem : done[i] ∈ done := List.getElem_mem hil
            have h1 := HD1.out _ hmem
            have h2 := HU2.out _ hmem
            have h3 := HLa.out done[i] (by rw [hdrop]; exact List.mem_append_left _ (List.mem_cons_self ..))
            have hnext : Hid (∀ r ∈ done.drop (i + 1) ++ rest, done[i].until_ ≤ r.until_) := Lib.hid (fun r hr => by
              have hp : (done.drop i ++ rest).Pairwise ltR := by
                have h := HAs.out.drop (i := i)
                rw [List.drop_append_of_le_length (by omega)] at h
                exact h
              rw [hdrop, List.cons_append] at hp
              have := (List.pairwise_cons.1 hp).1 r hr
              unfold ltR at this; omega)
            obtain ⟨un, hun⟩ : ∃ un, un = done[i].until_ := ⟨_, rfl⟩
            rw [← hun] at c3 h1 h2 h3 hnext
            have e1 : decide (now < un) = false := by rw [decide_eq_false_iff_not]; omega
            have e2 : decide (un ≤ now - step) = false := by rw [decide_eq_false_iff_not]; omega
            have e3 : decide (un < la) = false := by rw [decide_eq_false_iff_not]; omega
            clear hun hc hdrop hmem hil HLa
            subst hA3
            go_wp2
            go_roundw
            case rel => exact ⟨i + 1, un, by omega, by go_num, by go_num, rfl, trivial, hnext⟩
            case measure => simp [intOf]; omega
          · have hid' : ¬ (i : Int) < (dn : Int) := by omega
            obtain rfl : i = dn := by omega
            go_wp2
            go_roundw
            case rel =>
              refine ⟨rest, now + step, la, kd + i, rfl, by go_num, by go_num, by omega, by omega, hdn9, HKK, HX3, Lib.hid (fun r hr => ⟨?_, ?_, HU3.out r hr⟩), HB3⟩
              · have := HD2.out r hr; omega
              · exact HLa.out r (List.mem_append_right _ hr)
            case measure => simp [intOf]; omega
      · have hR : R = [] := by
          cases R with
          | nil => rfl
          | cons r l => have := HU.out r (List.mem_cons_self ..); omega
        subst hR
        have hkN : kd = N := by have := HK.out; simpa using this
        subst hkN
        have HF := Lib.hid HX.out.free
        go_wp2_with (go_at_call 21; refine Calls.mono (by with_reducible exact HF.out) ?_; rintro en w4 ⟨rfl, hb⟩; have HB4 := Lib.hid (HB.out.trans (hb.mono HB.out.size)); clear hb)
        go_ret
        exact ⟨rfl, HB4.out⟩
end Go.Proofs.Ytkdfkhebjhnbmaa
