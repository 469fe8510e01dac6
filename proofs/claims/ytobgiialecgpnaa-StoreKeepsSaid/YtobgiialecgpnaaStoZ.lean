/- The law StoreKeeps. -/
import Derived.Test.YtobgiialecgpnaaStoW
import Derived.Test.YtobgiialecgpnaaStoV
import Derived.Test.YtobgiialecgpnaaStOps
import Derived.Test.YtobgiialecgpnaaStoY2
import Derived.Deep.CutBlock
set_option linter.unusedSimpArgs false
set_option linter.unusedVariables false
namespace Go.Proofs.Ytobgiialecgpnaa
open Go.ChangeShapes Go.WideShapes Go.ChangeAt Go.RowKit Go.Base Go.Sto Go.Maps

def SomePost (B p : Nat) (w : World) (e : Ending) (w' : World) : Prop := ∃ (z : Int) (st' : St), e = .returned (.int .i64 z) ∧ LS B w' p st' ∧ Below B w w'
section
variable {B p : Nat} {w : World} {st : St}
theorem LS.drew (h : LS B w p st) : LS B w.drew p st := h.later (Below.refl w.heap.size w).drew
theorem append_some (h : LS B w p st) (s : ByteArray) (hs : s.size ≤ maxLen) (A : Option Addr) (b : List UInt8) (c : Nat) (hb : Byt w A b) (hm : b.length ≤ maxLen) : Calls Try.prog 12 #[.pointer (some ⟨p, 0, none⟩), .string s, .slice A b.length c] w (SomePost B p w) :=
  (app_ls h s hs A b b.length c _ rfl hb hm rfl rfl).mono fun e w' h => ⟨_, _, h⟩
theorem sync_some (h : LS B w p st) (s : ByteArray) (hs : s.size ≤ maxLen) : Calls Try.prog 15 #[.pointer (some ⟨p, 0, none⟩), .string s] w (SomePost B p w) :=
  (sync_ls h s hs _ rfl rfl).mono fun e w' h => ⟨_, _, h⟩
theorem cut_some (h : LS B w p st) (s : ByteArray) (hs : s.size ≤ maxLen) (z : Int) (h1 : -9223372036854775808 ≤ z) (h2 : z ≤ 9223372036854775807) : Calls Try.prog 16 #[.pointer (some ⟨p, 0, none⟩), .string s, .int .i64 z] w (SomePost B p w) :=
  (cut_ls h s hs z h1 h2 _ rfl rfl).mono fun e w' h => ⟨_, _, h⟩
theorem rename_some (h : LS B w p st) (s t : ByteArray) (hs : s.size ≤ maxLen) (ht : t.size ≤ maxLen) : Calls Try.prog 17 #[.pointer (some ⟨p, 0, none⟩), .string s, .string t] w (SomePost B p w) :=
  (rename_ls h s t hs ht _ rfl rfl).mono fun e w' h => ⟨_, _, h⟩
end
set_option maxHeartbeats 8000000 in
set_option maxRecDepth 20000 in
theorem law_keeps (A K : Option Addr) (ol : List SOp) (ks : List (ByteArray × Int)) (n lk c k0 : Nat) (w : World) (ho : SOps w A ol) (hk : Kepts w K ks) (hn : ol.length = n) (hlk : ks.length = lk) (hmn : n ≤ maxLen) (hmk : lk ≤ maxLen) :
    Calls Try.prog 4 #[.slice A n c, .slice K lk k0] w fun e w' => e = .returned (.bool true) ∧ Below w.heap.size w w' := by
  have HLi := Lib.hid (fun V => lives_any V)
  have HN := Lib.hid (new_ls (B := w.heap.size) 65536 65536 w (by omega) rfl (Nat.le_refl _))
  unfold maxLen at hmn
  have hmn' : (n : Int) ≤ 9223372036854775807 := by omega
  have HO := Lib.hid ho
  have HKs := Lib.hid hk
  have HLn := Lib.hid hn
  have HLk := Lib.hid (And.intro hlk hmk)
  clear ho hk hn hlk hmk
  go_enter Try.func4, Try.ntmps4
  go_upto_block 0 with (first
    | (go_at_call 8; refine Calls.mono (by with_reducible exact HN.out) ?_; rintro e w1 ⟨p, rfl, hx, hb⟩; have HX1 := Lib.hid hx; have HB1 := Lib.hid hb; clear hx hb)
    | (go_at_call 10; refine Calls.mono (by with_reducible exact HLi.out _) ?_; rintro e w2 ⟨rfl, hb⟩; have HX2 := Lib.hid (HX1.out.later hb); have HB2 := Lib.hid (HB1.out.trans (hb.mono HB1.out.size)); clear hb HX1))
  go_cut [5] from 29 to 94 (fun sv wx => ∃ (p : Nat) (st : St), sv = .pointer (some ⟨p, 0, none⟩) ∧ Hid (LS w.heap.size wx p st) ∧ Hid (Below w.heap.size w wx))
  case first =>
    go_wp2_with fail
    go_loopw [7] (fun iv wr => ∃ (k : Nat) (st : St), k ≤ n ∧ iv = .int .i64 (k : Int) ∧ Hid (LS w.heap.size wr p st) ∧ Hid (Below w.heap.size w wr)) (fun iv _ => n - (intOf iv).toNat)
    case atStart => exact ⟨0, _, Nat.zero_le _, rfl, HX2, HB2⟩
    case round =>
      obtain ⟨k, st, hkn, rfl, HX, HB⟩ := hrel
      have hkz : (0 : Int) ≤ (k : Int) := by omega
      by_cases hk1 : k < n
      · have hk1' : (k : Int) < (n : Int) := by omega
        by_cases hk2 : k < 100
        · have hk2' : (k : Int) < 100 := by omega
          have hh : k < ol.length := by rw [HLn.out]; exact hk1
          obtain ⟨b, o, rfl, hj1, hj2⟩ := HO.out k hh
          clear hj1 hj2
          have hAt : ∀ V, Below w.heap.size w V → (V.cell? ⟨b, o + k * 6, none⟩ = some (.int .i64 ol[k].kind) ∧ V.cell? ⟨b, o + k * 6 + 1, none⟩ = some (.string ol[k].name) ∧ V.cell? ⟨b, o + k * 6 + 2, none⟩ = some (.string ol[k].to) ∧
              V.cell? ⟨b, o + k * 6 + 3, none⟩ = some (.slice ol[k].bA ol[k].bl.length ol[k].bc) ∧ V.cell? ⟨b, o + k * 6 + 4, none⟩ = some (.int .i64 ol[k].n) ∧ V.cell? ⟨b, o + k * 6 + 5, none⟩ = some (.slice ol[k].kA ol[k].kl.length ol[k].kc)) ∧ ol[k].Fit V := fun V hV => by
            obtain ⟨b', o', e', hc, hf⟩ := (HO.out.later hV) k hh
            injection e' with e'
            injection e' with e1 e2
            subst e1; subst e2
            exact And.intro hc hf
          obtain ⟨od, hod⟩ : ∃ od, od = ol[k] := ⟨_, rfl⟩
          rw [← hod] at hAt
          clear hod hh
          have HCs := Lib.hid (fun V hV => (hAt V hV).1)
          have HFit := Lib.hid (hAt _ HB.out).2
          have c0 := (HCs.out _ HB.out).1
          have c1 := (HCs.out _ HB.out).2.1
          clear hAt
          by_cases q1 : od.kind = 1
          · rw [q1] at c0
            go_wp2_with fail
            have HS0 : Hid (∀ V, Below w.heap.size w V → (fun w' => w'.cell? ⟨b, o + k * 6 + 1, none⟩ = some (.string od.name) ∧ w'.cell? ⟨b, o + k * 6 + 3, none⟩ = some (.slice od.bA od.bl.length od.bc)) V) := Lib.hid (fun V hV => ⟨(HCs.out V hV).2.1, (HCs.out V hV).2.2.2.1⟩)
            refine wp_region_held_drew (S := (fun w' => w'.cell? ⟨b, o + k * 6 + 1, none⟩ = some (.string od.name) ∧ w'.cell? ⟨b, o + k * 6 + 3, none⟩ = some (.slice od.bA od.bl.length od.bc))) (by kernel_rfl) (HS0.out _ HB.out.drew) (fun hHeld => ?_)
            refine wpAnyH_take (i := 0) (v := ?vv1) rfl (by kernel_rfl) (by kernel_rfl) (by kernel_rfl) (fun _ _ _ h => h) (Or.inl ⟨by rfl, ?hy1⟩) hHeld ?rr1
            case hy1 => (intro w' hSw; obtain ⟨g1, g3⟩ := hSw; go_simp; try with_reducible rfl)
            try simp only [Act.put, List.setIfInBounds_toArray, List.set_cons_zero, List.set_cons_succ, List.getElem_toArray, List.getElem_cons_succ, List.getElem_cons_zero]
            refine wpAnyH_take (i := 1) (v := ?vv2) rfl (by kernel_rfl) (by kernel_rfl) (by kernel_rfl) (fun _ _ _ h => h) (Or.inl ⟨by rfl, ?hy2⟩) hHeld ?rr2
            case hy2 => (intro w' hSw; obtain ⟨g1, g3⟩ := hSw; go_simp; try with_reducible rfl)
            try simp only [Act.put, List.setIfInBounds_toArray, List.set_cons_zero, List.set_cons_succ, List.getElem_toArray, List.getElem_cons_succ, List.getElem_cons_zero]
            refine wpAnyH_take (i := 2) (v := ?vv3) rfl (by kernel_rfl) (by kernel_rfl) (by kernel_rfl) (fun _ _ _ h => h) (Or.inl ⟨by rfl, ?hy3⟩) hHeld ?rr3
            case hy3 => (intro w' hSw; obtain ⟨g1, g3⟩ := hSw; go_simp; try with_reducible rfl)
            try simp only [Act.put, List.setIfInBounds_toArray, List.set_cons_zero, List.set_cons_succ, List.getElem_toArray, List.getElem_cons_succ, List.getElem_cons_zero]
            refine wpAnyH_take (i := 3) (v := ?vv4) rfl (by kernel_rfl) (by kernel_rfl) (by kernel_rfl) (fun _ _ _ h => h) (Or.inl ⟨by rfl, ?hy4⟩) hHeld ?rr4
            case hy4 => (intro w' hSw; obtain ⟨g1, g3⟩ := hSw; go_simp; try with_reducible rfl)
            try simp only [Act.put, List.setIfInBounds_toArray, List.set_cons_zero, List.set_cons_succ, List.getElem_toArray, List.getElem_cons_succ, List.getElem_cons_zero]
            refine wpAnyH_take (i := 4) (v := ?vv5) rfl (by kernel_rfl) (by kernel_rfl) (by kernel_rfl) (fun _ _ _ h => h) (Or.inl ⟨by rfl, ?hy5⟩) hHeld ?rr5
            case hy5 => (intro w' hSw; obtain ⟨g1, g3⟩ := hSw; go_simp; try with_reducible rfl)
            try simp only [Act.put, List.setIfInBounds_toArray, List.set_cons_zero, List.set_cons_succ, List.getElem_toArray, List.getElem_cons_succ, List.getElem_cons_zero]
            refine wpAnyH_take (i := 5) (v := ?vv6) rfl (by kernel_rfl) (by kernel_rfl) (by kernel_rfl) (fun _ _ _ h => h) (Or.inl ⟨by rfl, ?hy6⟩) hHeld ?rr6
            case hy6 => (intro w' hSw; obtain ⟨g1, g3⟩ := hSw; go_simp; try with_reducible rfl)
            try simp only [Act.put, List.setIfInBounds_toArray, List.set_cons_zero, List.set_cons_succ, List.getElem_toArray, List.getElem_cons_succ, List.getElem_cons_zero]
            refine wpAnyH_take (i := 6) (v := ?vv7) rfl (by kernel_rfl) (by kernel_rfl) (by kernel_rfl) (fun _ _ _ h => h) (Or.inl ⟨by rfl, ?hy7⟩) hHeld ?rr7
            case hy7 => (intro w' hSw; obtain ⟨g1, g3⟩ := hSw; go_simp; try with_reducible rfl)
            try simp only [Act.put, List.setIfInBounds_toArray, List.set_cons_zero, List.set_cons_succ, List.getElem_toArray, List.getElem_cons_succ, List.getElem_cons_zero]
            refine wpAnyH_take (i := 7) (v := ?vv8) rfl (by kernel_rfl) (by kernel_rfl) (by kernel_rfl) (fun _ _ _ h => h) (Or.inl ⟨by rfl, ?hy8⟩) hHeld ?rr8
            case hy8 => (intro w' hSw; obtain ⟨g1, g3⟩ := hSw; go_simp; try with_reducible rfl)
            try simp only [Act.put, List.setIfInBounds_toArray, List.set_cons_zero, List.set_cons_succ, List.getElem_toArray, List.getElem_cons_succ, List.getElem_cons_zero]
            refine wpAnyH_take (i := 8) (v := ?vv9) rfl (by kernel_rfl) (by kernel_rfl) (by kernel_rfl) (fun _ _ _ h => h) (Or.inl ⟨by rfl, ?hy9⟩) hHeld ?rr9
            case hy9 => (intro w' hSw; obtain ⟨g1, g3⟩ := hSw; go_simp; try with_reducible rfl)
            try simp only [Act.put, List.setIfInBounds_toArray, List.set_cons_zero, List.set_cons_succ, List.getElem_toArray, List.getElem_cons_succ, List.getElem_cons_zero]
            refine wpAnyH_take (i := 9) (v := ?vv10) rfl (by kernel_rfl) (by kernel_rfl) (by kernel_rfl) (fun _ _ _ h => h) (Or.inl ⟨by rfl, ?hy10⟩) hHeld ?rr10
            case hy10 => (intro w' hSw; obtain ⟨g1, g3⟩ := hSw; go_simp; try with_reducible rfl)
            try simp only [Act.put, List.setIfInBounds_toArray, List.set_cons_zero, List.set_cons_succ, List.getElem_toArray, List.getElem_cons_succ, List.getElem_cons_zero]
            refine wpAnyH_take (i := 10) (v := ?vv11) rfl (by kernel_rfl) (by kernel_rfl) (by kernel_rfl) (fun _ _ _ h => h) (Or.inl ⟨by rfl, ?hy11⟩) hHeld ?rr11
            case hy11 => (intro w' hSw; obtain ⟨g1, g3⟩ := hSw; go_simp; try with_reducible rfl)
            try simp only [Act.put, List.setIfInBounds_toArray, List.set_cons_zero, List.set_cons_succ, List.getElem_toArray, List.getElem_cons_succ, List.getElem_cons_zero]
            refine wpAnyH_ready (rs := [11]) (by kernel_rfl) (by simp) ?_
            refine AllReadyH.cons rfl (fun K hK => ?_) AllReadyH.nil
            try rw [if_pos (by rfl)]
            go_simp
            go_at_call 12
            refine Calls.mono (append_some HX.out.drew od.name HFit.out.s od.bA od.bl od.bc (HFit.out.b.later (Below.refl wr.heap.size wr).drew) HFit.out.bm) ?_
            rintro en w5 ⟨z5, st5, rfl, hx5, hb5⟩
            have HX5 := Lib.hid hx5
            have HB5 := Lib.hid (HB.out.drew.trans hb5)
            clear hx5 hb5
            go_wp2_with fail
            refine hK.out _ _ (HS0.out _ HB5.out) (fun hHeld2 => ?_)
            clear hK K hHeld
            have hHeld := hHeld2
            clear hHeld2
            try simp only [Act.put, List.setIfInBounds_toArray, List.set_cons_zero, List.set_cons_succ, List.getElem_toArray, List.getElem_cons_succ, List.getElem_cons_zero]
            refine wpAnyH_done (by kernel_rfl) ?_ _
            clear hHeld
            go_wp2
            go_roundw
            case rel => exact ⟨k + 1, st5, by omega, by go_num, HX5, HB5⟩
            case measure => simp [intOf]; omega
          by_cases q2 : od.kind = 2
          · rw [q2] at c0
            go_wp2_with (go_at_call 15; refine Calls.mono (sync_some HX.out od.name HFit.out.s) ?_; rintro en w5 ⟨z5, st5, rfl, hx5, hb5⟩; have HX5 := Lib.hid hx5; have HB5 := Lib.hid (HB.out.trans hb5); clear hx5 hb5)
            go_roundw
            case rel => exact ⟨k + 1, st5, by omega, by go_num, HX5, HB5⟩
            case measure => simp [intOf]; omega
          by_cases q3 : od.kind = 3
          · rw [q3] at c0
            go_wp2_with fail
            have HS0 : Hid (∀ V, Below w.heap.size w V → (fun w' => w'.cell? ⟨b, o + k * 6 + 1, none⟩ = some (.string od.name) ∧ w'.cell? ⟨b, o + k * 6 + 4, none⟩ = some (.int .i64 od.n)) V) := Lib.hid (fun V hV => ⟨(HCs.out V hV).2.1, (HCs.out V hV).2.2.2.2.1⟩)
            refine wp_region_held_drew (S := (fun w' => w'.cell? ⟨b, o + k * 6 + 1, none⟩ = some (.string od.name) ∧ w'.cell? ⟨b, o + k * 6 + 4, none⟩ = some (.int .i64 od.n))) (by kernel_rfl) (HS0.out _ HB.out.drew) (fun hHeld => ?_)
            refine wpAnyH_take (i := 0) (v := ?vv12) rfl (by kernel_rfl) (by kernel_rfl) (by kernel_rfl) (fun _ _ _ h => h) (Or.inl ⟨by rfl, ?hy12⟩) hHeld ?rr12
            case hy12 => (intro w' hSw; obtain ⟨g1, g4⟩ := hSw; go_simp; try with_reducible rfl)
            try simp only [Act.put, List.setIfInBounds_toArray, List.set_cons_zero, List.set_cons_succ, List.getElem_toArray, List.getElem_cons_succ, List.getElem_cons_zero]
            refine wpAnyH_take (i := 1) (v := ?vv13) rfl (by kernel_rfl) (by kernel_rfl) (by kernel_rfl) (fun _ _ _ h => h) (Or.inl ⟨by rfl, ?hy13⟩) hHeld ?rr13
            case hy13 => (intro w' hSw; obtain ⟨g1, g4⟩ := hSw; go_simp; try with_reducible rfl)
            try simp only [Act.put, List.setIfInBounds_toArray, List.set_cons_zero, List.set_cons_succ, List.getElem_toArray, List.getElem_cons_succ, List.getElem_cons_zero]
            refine wpAnyH_take (i := 2) (v := ?vv14) rfl (by kernel_rfl) (by kernel_rfl) (by kernel_rfl) (fun _ _ _ h => h) (Or.inl ⟨by rfl, ?hy14⟩) hHeld ?rr14
            case hy14 => (intro w' hSw; obtain ⟨g1, g4⟩ := hSw; go_simp; try with_reducible rfl)
            try simp only [Act.put, List.setIfInBounds_toArray, List.set_cons_zero, List.set_cons_succ, List.getElem_toArray, List.getElem_cons_succ, List.getElem_cons_zero]
            refine wpAnyH_take (i := 3) (v := ?vv15) rfl (by kernel_rfl) (by kernel_rfl) (by kernel_rfl) (fun _ _ _ h => h) (Or.inl ⟨by rfl, ?hy15⟩) hHeld ?rr15
            case hy15 => (intro w' hSw; obtain ⟨g1, g4⟩ := hSw; go_simp; try with_reducible rfl)
            try simp only [Act.put, List.setIfInBounds_toArray, List.set_cons_zero, List.set_cons_succ, List.getElem_toArray, List.getElem_cons_succ, List.getElem_cons_zero]
            refine wpAnyH_take (i := 4) (v := ?vv16) rfl (by kernel_rfl) (by kernel_rfl) (by kernel_rfl) (fun _ _ _ h => h) (Or.inl ⟨by rfl, ?hy16⟩) hHeld ?rr16
            case hy16 => (intro w' hSw; obtain ⟨g1, g4⟩ := hSw; go_simp; try with_reducible rfl)
            try simp only [Act.put, List.setIfInBounds_toArray, List.set_cons_zero, List.set_cons_succ, List.getElem_toArray, List.getElem_cons_succ, List.getElem_cons_zero]
            refine wpAnyH_take (i := 5) (v := ?vv17) rfl (by kernel_rfl) (by kernel_rfl) (by kernel_rfl) (fun _ _ _ h => h) (Or.inl ⟨by rfl, ?hy17⟩) hHeld ?rr17
            case hy17 => (intro w' hSw; obtain ⟨g1, g4⟩ := hSw; go_simp; try with_reducible rfl)
            try simp only [Act.put, List.setIfInBounds_toArray, List.set_cons_zero, List.set_cons_succ, List.getElem_toArray, List.getElem_cons_succ, List.getElem_cons_zero]
            refine wpAnyH_take (i := 6) (v := ?vv18) rfl (by kernel_rfl) (by kernel_rfl) (by kernel_rfl) (fun _ _ _ h => h) (Or.inl ⟨by rfl, ?hy18⟩) hHeld ?rr18
            case hy18 => (intro w' hSw; obtain ⟨g1, g4⟩ := hSw; go_simp; try with_reducible rfl)
            try simp only [Act.put, List.setIfInBounds_toArray, List.set_cons_zero, List.set_cons_succ, List.getElem_toArray, List.getElem_cons_succ, List.getElem_cons_zero]
            refine wpAnyH_take (i := 7) (v := ?vv19) rfl (by kernel_rfl) (by kernel_rfl) (by kernel_rfl) (fun _ _ _ h => h) (Or.inl ⟨by rfl, ?hy19⟩) hHeld ?rr19
            case hy19 => (intro w' hSw; obtain ⟨g1, g4⟩ := hSw; go_simp; try with_reducible rfl)
            try simp only [Act.put, List.setIfInBounds_toArray, List.set_cons_zero, List.set_cons_succ, List.getElem_toArray, List.getElem_cons_succ, List.getElem_cons_zero]
            refine wpAnyH_take (i := 8) (v := ?vv20) rfl (by kernel_rfl) (by kernel_rfl) (by kernel_rfl) (fun _ _ _ h => h) (Or.inl ⟨by rfl, ?hy20⟩) hHeld ?rr20
            case hy20 => (intro w' hSw; obtain ⟨g1, g4⟩ := hSw; go_simp; try with_reducible rfl)
            try simp only [Act.put, List.setIfInBounds_toArray, List.set_cons_zero, List.set_cons_succ, List.getElem_toArray, List.getElem_cons_succ, List.getElem_cons_zero]
            refine wpAnyH_take (i := 9) (v := ?vv21) rfl (by kernel_rfl) (by kernel_rfl) (by kernel_rfl) (fun _ _ _ h => h) (Or.inl ⟨by rfl, ?hy21⟩) hHeld ?rr21
            case hy21 => (intro w' hSw; obtain ⟨g1, g4⟩ := hSw; go_simp; try with_reducible rfl)
            try simp only [Act.put, List.setIfInBounds_toArray, List.set_cons_zero, List.set_cons_succ, List.getElem_toArray, List.getElem_cons_succ, List.getElem_cons_zero]
            refine wpAnyH_take (i := 10) (v := ?vv22) rfl (by kernel_rfl) (by kernel_rfl) (by kernel_rfl) (fun _ _ _ h => h) (Or.inl ⟨by rfl, ?hy22⟩) hHeld ?rr22
            case hy22 => (intro w' hSw; obtain ⟨g1, g4⟩ := hSw; go_simp; try with_reducible rfl)
            try simp only [Act.put, List.setIfInBounds_toArray, List.set_cons_zero, List.set_cons_succ, List.getElem_toArray, List.getElem_cons_succ, List.getElem_cons_zero]
            refine wpAnyH_ready (rs := [11]) (by kernel_rfl) (by simp) ?_
            refine AllReadyH.cons rfl (fun K hK => ?_) AllReadyH.nil
            try rw [if_pos (by rfl)]
            go_simp
            go_at_call 16
            refine Calls.mono (cut_some HX.out.drew od.name HFit.out.s od.n HFit.out.n1 HFit.out.n2) ?_
            rintro en w5 ⟨z5, st5, rfl, hx5, hb5⟩
            have HX5 := Lib.hid hx5
            have HB5 := Lib.hid (HB.out.drew.trans hb5)
            clear hx5 hb5
            go_wp2_with fail
            refine hK.out _ _ (HS0.out _ HB5.out) (fun hHeld2 => ?_)
            clear hK K hHeld
            have hHeld := hHeld2
            clear hHeld2
            try simp only [Act.put, List.setIfInBounds_toArray, List.set_cons_zero, List.set_cons_succ, List.getElem_toArray, List.getElem_cons_succ, List.getElem_cons_zero]
            refine wpAnyH_done (by kernel_rfl) ?_ _
            clear hHeld
            go_wp2
            go_roundw
            case rel => exact ⟨k + 1, st5, by omega, by go_num, HX5, HB5⟩
            case measure => simp [intOf]; omega
          by_cases q4 : od.kind = 4
          · rw [q4] at c0
            go_wp2_with fail
            have HS0 : Hid (∀ V, Below w.heap.size w V → (fun w' => w'.cell? ⟨b, o + k * 6 + 1, none⟩ = some (.string od.name) ∧ w'.cell? ⟨b, o + k * 6 + 2, none⟩ = some (.string od.to)) V) := Lib.hid (fun V hV => ⟨(HCs.out V hV).2.1, (HCs.out V hV).2.2.1⟩)
            refine wp_region_held_drew (S := (fun w' => w'.cell? ⟨b, o + k * 6 + 1, none⟩ = some (.string od.name) ∧ w'.cell? ⟨b, o + k * 6 + 2, none⟩ = some (.string od.to))) (by kernel_rfl) (HS0.out _ HB.out.drew) (fun hHeld => ?_)
            refine wpAnyH_take (i := 0) (v := ?vv23) rfl (by kernel_rfl) (by kernel_rfl) (by kernel_rfl) (fun _ _ _ h => h) (Or.inl ⟨by rfl, ?hy23⟩) hHeld ?rr23
            case hy23 => (intro w' hSw; obtain ⟨g1, g2⟩ := hSw; go_simp; try with_reducible rfl)
            try simp only [Act.put, List.setIfInBounds_toArray, List.set_cons_zero, List.set_cons_succ, List.getElem_toArray, List.getElem_cons_succ, List.getElem_cons_zero]
            refine wpAnyH_take (i := 1) (v := ?vv24) rfl (by kernel_rfl) (by kernel_rfl) (by kernel_rfl) (fun _ _ _ h => h) (Or.inl ⟨by rfl, ?hy24⟩) hHeld ?rr24
            case hy24 => (intro w' hSw; obtain ⟨g1, g2⟩ := hSw; go_simp; try with_reducible rfl)
            try simp only [Act.put, List.setIfInBounds_toArray, List.set_cons_zero, List.set_cons_succ, List.getElem_toArray, List.getElem_cons_succ, List.getElem_cons_zero]
            refine wpAnyH_take (i := 2) (v := ?vv25) rfl (by kernel_rfl) (by kernel_rfl) (by kernel_rfl) (fun _ _ _ h => h) (Or.inl ⟨by rfl, ?hy25⟩) hHeld ?rr25
            case hy25 => (intro w' hSw; obtain ⟨g1, g2⟩ := hSw; go_simp; try with_reducible rfl)
            try simp only [Act.put, List.setIfInBounds_toArray, List.set_cons_zero, List.set_cons_succ, List.getElem_toArray, List.getElem_cons_succ, List.getElem_cons_zero]
            refine wpAnyH_take (i := 3) (v := ?vv26) rfl (by kernel_rfl) (by kernel_rfl) (by kernel_rfl) (fun _ _ _ h => h) (Or.inl ⟨by rfl, ?hy26⟩) hHeld ?rr26
            case hy26 => (intro w' hSw; obtain ⟨g1, g2⟩ := hSw; go_simp; try with_reducible rfl)
            try simp only [Act.put, List.setIfInBounds_toArray, List.set_cons_zero, List.set_cons_succ, List.getElem_toArray, List.getElem_cons_succ, List.getElem_cons_zero]
            refine wpAnyH_take (i := 4) (v := ?vv27) rfl (by kernel_rfl) (by kernel_rfl) (by kernel_rfl) (fun _ _ _ h => h) (Or.inl ⟨by rfl, ?hy27⟩) hHeld ?rr27
            case hy27 => (intro w' hSw; obtain ⟨g1, g2⟩ := hSw; go_simp; try with_reducible rfl)
            try simp only [Act.put, List.setIfInBounds_toArray, List.set_cons_zero, List.set_cons_succ, List.getElem_toArray, List.getElem_cons_succ, List.getElem_cons_zero]
            refine wpAnyH_take (i := 5) (v := ?vv28) rfl (by kernel_rfl) (by kernel_rfl) (by kernel_rfl) (fun _ _ _ h => h) (Or.inl ⟨by rfl, ?hy28⟩) hHeld ?rr28
            case hy28 => (intro w' hSw; obtain ⟨g1, g2⟩ := hSw; go_simp; try with_reducible rfl)
            try simp only [Act.put, List.setIfInBounds_toArray, List.set_cons_zero, List.set_cons_succ, List.getElem_toArray, List.getElem_cons_succ, List.getElem_cons_zero]
            refine wpAnyH_take (i := 6) (v := ?vv29) rfl (by kernel_rfl) (by kernel_rfl) (by kernel_rfl) (fun _ _ _ h => h) (Or.inl ⟨by rfl, ?hy29⟩) hHeld ?rr29
            case hy29 => (intro w' hSw; obtain ⟨g1, g2⟩ := hSw; go_simp; try with_reducible rfl)
            try simp only [Act.put, List.setIfInBounds_toArray, List.set_cons_zero, List.set_cons_succ, List.getElem_toArray, List.getElem_cons_succ, List.getElem_cons_zero]
            refine wpAnyH_take (i := 7) (v := ?vv30) rfl (by kernel_rfl) (by kernel_rfl) (by kernel_rfl) (fun _ _ _ h => h) (Or.inl ⟨by rfl, ?hy30⟩) hHeld ?rr30
            case hy30 => (intro w' hSw; obtain ⟨g1, g2⟩ := hSw; go_simp; try with_reducible rfl)
            try simp only [Act.put, List.setIfInBounds_toArray, List.set_cons_zero, List.set_cons_succ, List.getElem_toArray, List.getElem_cons_succ, List.getElem_cons_zero]
            refine wpAnyH_take (i := 8) (v := ?vv31) rfl (by kernel_rfl) (by kernel_rfl) (by kernel_rfl) (fun _ _ _ h => h) (Or.inl ⟨by rfl, ?hy31⟩) hHeld ?rr31
            case hy31 => (intro w' hSw; obtain ⟨g1, g2⟩ := hSw; go_simp; try with_reducible rfl)
            try simp only [Act.put, List.setIfInBounds_toArray, List.set_cons_zero, List.set_cons_succ, List.getElem_toArray, List.getElem_cons_succ, List.getElem_cons_zero]
            refine wpAnyH_take (i := 9) (v := ?vv32) rfl (by kernel_rfl) (by kernel_rfl) (by kernel_rfl) (fun _ _ _ h => h) (Or.inl ⟨by rfl, ?hy32⟩) hHeld ?rr32
            case hy32 => (intro w' hSw; obtain ⟨g1, g2⟩ := hSw; go_simp; try with_reducible rfl)
            try simp only [Act.put, List.setIfInBounds_toArray, List.set_cons_zero, List.set_cons_succ, List.getElem_toArray, List.getElem_cons_succ, List.getElem_cons_zero]
            refine wpAnyH_take (i := 10) (v := ?vv33) rfl (by kernel_rfl) (by kernel_rfl) (by kernel_rfl) (fun _ _ _ h => h) (Or.inl ⟨by rfl, ?hy33⟩) hHeld ?rr33
            case hy33 => (intro w' hSw; obtain ⟨g1, g2⟩ := hSw; go_simp; try with_reducible rfl)
            try simp only [Act.put, List.setIfInBounds_toArray, List.set_cons_zero, List.set_cons_succ, List.getElem_toArray, List.getElem_cons_succ, List.getElem_cons_zero]
            refine wpAnyH_ready (rs := [11]) (by kernel_rfl) (by simp) ?_
            refine AllReadyH.cons rfl (fun K hK => ?_) AllReadyH.nil
            try rw [if_pos (by rfl)]
            go_simp
            go_at_call 17
            refine Calls.mono (rename_some HX.out.drew od.name od.to HFit.out.s HFit.out.t) ?_
            rintro en w5 ⟨z5, st5, rfl, hx5, hb5⟩
            have HX5 := Lib.hid hx5
            have HB5 := Lib.hid (HB.out.drew.trans hb5)
            clear hx5 hb5
            go_wp2_with fail
            refine hK.out _ _ (HS0.out _ HB5.out) (fun hHeld2 => ?_)
            clear hK K hHeld
            have hHeld := hHeld2
            clear hHeld2
            try simp only [Act.put, List.setIfInBounds_toArray, List.set_cons_zero, List.set_cons_succ, List.getElem_toArray, List.getElem_cons_succ, List.getElem_cons_zero]
            refine wpAnyH_done (by kernel_rfl) ?_ _
            clear hHeld
            go_wp2
            go_roundw
            case rel => exact ⟨k + 1, st5, by omega, by go_num, HX5, HB5⟩
            case measure => simp [intOf]; omega
          · go_wp2
            go_roundw
            case rel => exact ⟨k + 1, st, by omega, by go_num, HX, HB⟩
            case measure => simp [intOf]; omega
        · have hk2' : ¬ (k : Int) < 100 := by omega
          go_wp2
          go_meet
          exact ⟨p, st, rfl, HX, HB⟩
      · obtain rfl : k = n := by omega
        go_wp2
        go_meet
        exact ⟨p, st, rfl, HX, HB⟩
  case rest =>
    obtain ⟨p, st, rfl, HX, HB⟩ := hcut
    obtain ⟨F0, hst, hF, hlt⟩ := HX.out.1.tight
    have HFl := Lib.hid hlt
    have HFB : Hid (∀ k, F0 k → w.heap.size ≤ k) := Lib.hid hF
    have HSt := Lib.hid hst
    have HL1 := Lib.hid (list_sto hst)
    obtain ⟨hris, hsur, hfew⟩ : Rising st.files ∧ (∀ f ∈ st.files, f.sure ≤ f.bytes.length ∧ f.bytes.length ≤ 67108864) ∧ st.files.length ≤ 64 := by
      obtain ⟨bm, D, es, h, hes⟩ := hst
      rw [← hes]
      exact ⟨h.rising, fun f hf => by
        obtain ⟨e, he, rfl⟩ := List.mem_map.1 hf
        have := used_le (List.mem_map.2 ⟨e, he, rfl⟩ : e.f ∈ es.map (·.f))
        have := h.fits
        exact ⟨h.sures e he, by omega⟩, by rw [List.length_map]; exact h.few⟩
    have HRis := Lib.hid hris
    have HSur := Lib.hid hsur
    have HLK := HLk.out
    obtain ⟨N, hN⟩ : ∃ N, N = st.files.length := ⟨_, rfl⟩
    have HNn := Lib.hid hN
    have hN64 : N ≤ 64 := by omega
    rw [← hN] at hfew
    clear hst hF hlt hris hsur hfew HX hN
    rcases hout : outR st.files ks [] with _ | acc
    · have HCr : Hid (crashR st ks = (1, st)) := Lib.hid (by unfold crashR; rw [hout])
      clear hout HLK
      go_wp2_with (first
        | (have tok1 := HL1; go_at_call 18; refine Calls.mono (by with_reducible exact HL1.out) ?_; rintro e w1 ⟨A1, c1, vs1, rfl, ho1, hl1, hb1⟩; rw [← HNn.out]; have HB1 := Lib.hid (HB.out.trans (hb1.mono HB.out.size)); have HSt1 := Lib.hid (Sto.later HSt.out hb1); clear ho1 hl1 hb1 HL1 tok1)
        | (go_at_call 19; refine Calls.mono (crash_sto HSt1.out K ks lk k0 (HKs.out.later HB1.out) HLk.out.1 HLk.out.2 _ HCr.out) ?_; rintro e w2 ⟨rfl, hs2, hm2⟩; have HB2 := Lib.hid (HB1.out.trans (hm2.below (fun k _ h => HFB.out k h) HB1.out.size)); have HL2 := Lib.hid (list_sto hs2); clear hs2 hm2)
        | (go_at_call 18; refine Calls.mono (by with_reducible exact HL2.out) ?_; rintro e w3 ⟨A3, c3, vs3, rfl, ho3, hl3, hb3⟩; rw [← HNn.out]; have HB3 := Lib.hid (HB2.out.trans (hb3.mono HB2.out.size)); clear ho3 hl3 hb3 HL2))
      go_ret
      exact ⟨rfl, HB3.out⟩
    · have HCr : Hid (crashR st ks = (0, ⟨crashed acc st.files, st.room, -1⟩)) := Lib.hid (by unfold crashR; rw [hout])
      have HFt : Hid (∀ f ∈ st.files, (crashF acc f).bytes.length = leftN acc f ∧ f.sure ≤ leftN acc f ∧ leftN acc f ≤ f.bytes.length) := Lib.hid (fun f hf => crashed_fits hout HRis.out hf (HSur.out f hf).1)
      obtain ⟨M, hM⟩ : ∃ M, M = (crashed acc st.files).length := ⟨_, rfl⟩
      have HMm := Lib.hid hM
      have hM64 : M ≤ 64 := by
        have h1 : (crashed acc st.files).length ≤ (st.files.map (crashF acc)).length := List.length_filter_le _ _
        rw [List.length_map] at h1
        have := HNn.out
        omega
      clear hout HLK hM
      go_wp2_with (first
        | (have tok1 := HL1; go_at_call 18; refine Calls.mono (by with_reducible exact HL1.out) ?_; rintro e w1 ⟨A1, c1, vs1, rfl, ho1, hl1, hb1⟩; have HO1 := Lib.hid ho1; have HD1 := Lib.hid hl1; rw [← HNn.out]; have HB1 := Lib.hid (HB.out.trans (hb1.mono HB.out.size)); have HSt1 := Lib.hid (Sto.later HSt.out hb1); clear ho1 hl1 hb1 HL1 tok1)
        | (go_at_call 19; refine Calls.mono (crash_sto HSt1.out K ks lk k0 (HKs.out.later HB1.out) HLk.out.1 HLk.out.2 _ HCr.out) ?_; rintro e w2 ⟨rfl, hs2, hm2⟩; have HB2 := Lib.hid (HB1.out.trans (hm2.below (fun k _ h => HFB.out k h) HB1.out.size)); have HL2 := Lib.hid (list_sto hs2); have HY2 := Lib.hid (Lies.moved HO1.out HD1.out hm2 HFl.out); clear hs2 hm2)
        | (go_at_call 18; refine Calls.mono (by with_reducible exact HL2.out) ?_; rintro e w3 ⟨A3, c3, vs3, rfl, ho3, hl3, hb3⟩; have HZ3 : Hid (Lies w3 A3 c3 (crashed acc st.files)) := Lib.hid ⟨_, _, ho3, hl3⟩; rw [← HMm.out]; have HY3 := Lib.hid (HY2.out.later hb3); have HB3 := Lib.hid (HB2.out.trans (hb3.mono HB2.out.size)); clear ho3 hl3 hb3 HL2))
      clear HSt HO1 HD1 HSt1 HY2 HCr HFl HFB
      obtain ⟨L, hL⟩ : ∃ L, L = st.files := ⟨_, rfl⟩
      rw [← hL] at HRis HSur HNn HFt HMm HZ3 HY3
      clear hL
      go_loopw [11, 12] (fun av iv wr => ∃ (k t : Nat), k ≤ N ∧ t ≤ M ∧ iv = .int .i64 (k : Int) ∧ av = .int .i64 (t : Int) ∧ Hid (t = (crashed acc (L.take k)).length) ∧ Hid (Below w3.heap.size w3 wr)) (fun _ iv _ => N - (intOf iv).toNat)
      case atStart => exact ⟨0, 0, by omega, by omega, rfl, rfl, Lib.hid rfl, Lib.hid (Below.refl _ _)⟩
      case round =>
        obtain ⟨k, t, hkN, htM, rfl, rfl, HT, HBr⟩ := hrel
        have hkz : (0 : Int) ≤ (k : Int) := by omega
        have htz : (0 : Int) ≤ (t : Int) := by omega
        have hBw : Hid (Below w.heap.size w wr) := Lib.hid (HB3.out.trans (HBr.out.mono HB3.out.size))
        by_cases hk : k < N
        · have hk' : (k : Int) < (N : Int) := by omega
          have hkl : k < L.length := by rw [← HNn.out]; exact hk
          obtain ⟨g1, a1, cp1, rfl, c10, c11, c12, by1, hcp1, hsp1⟩ := (HY3.out.later HBr.out).at_ hkl
          have HFk := Lib.hid (HFt.out L[k] (List.getElem_mem hkl))
          have hsk := HSur.out L[k] (List.getElem_mem hkl)
          obtain ⟨f, hf⟩ : ∃ f, f = L[k] := ⟨_, rfl⟩
          obtain ⟨nm, hnm⟩ : ∃ nm : ByteArray, nm = ⟨f.name.toArray⟩ := ⟨_, rfl⟩
          obtain ⟨bl, hbl⟩ : ∃ bl, bl = f.bytes.length := ⟨_, rfl⟩
          obtain ⟨sr, hsr⟩ : ∃ sr, sr = f.sure := ⟨_, rfl⟩
          rw [← hf, ← hnm] at c10
          rw [← hf, ← hbl] at c11 hcp1
          rw [← hf, ← hsr] at c12
          rw [← hf] at by1 HFk hsk
          rw [← hbl, ← hsr] at hsk
          have hg1 : g1 < wr.heap.size := World.block_lt_of_cell? wr _ c10
          cases hst : (crashF acc L[k]).stays
          · obtain ⟨hgone, hnext, hle, hs0⟩ := crashed_gone acc L HRis.out k hkl hst
            rw [← hf, ← hsr] at hs0
            rw [← HT.out] at hgone hnext hle
            have HNext := Lib.hid hnext
            by_cases ht : t < M
            · have ht' : ¬ (M : Int) ≤ (t : Int) := by omega
              have htl : t < (crashed acc L).length := by rw [← HMm.out]; exact ht
              obtain ⟨g3, a3, cp3, rfl, c30, d1, d2, d3, d4, d5⟩ := (HZ3.out.later HBr.out).at_ htl
              have hg3 : g3 < wr.heap.size := World.block_lt_of_cell? wr _ c30
              have hne := hgone _ (List.getElem?_eq_getElem htl)
              rw [← hf] at hne
              obtain ⟨n3, hn3⟩ : ∃ n3 : ByteArray, n3 = ⟨((crashed acc L)[t]).name.toArray⟩ := ⟨_, rfl⟩
              rw [← hn3] at c30
              have HNe : Hid (¬ n3.toList = nm.toList) := Lib.hid (by rw [ByteArray.toList_eq, ByteArray.toList_eq, hn3, hnm]; simpa using hne)
              obtain rfl := hs0
              clear d1 d2 d3 d4 d5 hgone hnext hle hne hn3 hnm hbl hsr hf hst htl hkl by1 HFk hcp1 hsk hsp1
              go_wp2_with fail
              have HC26 : Hid (∀ V, Below (wr.alloc (.cells #[.string nm, .slice a1 bl cp1, .int .i64 ((0 : Nat) : Int)] 47)).heap.size (wr.alloc (.cells #[.string nm, .slice a1 bl cp1, .int .i64 ((0 : Nat) : Int)] 47)) V → V.cell? ⟨wr.heap.size, 0, none⟩ = some (.string nm) ∧ V.cell? ⟨g3, t * 3, none⟩ = some (.string n3)) := Lib.hid (fun V hV => ⟨cell_later hV (cell_new wr _ _ _ 0), cell_later hV (cell_old _ c30)⟩)
              refine wp_region_held_drew (S := (fun w' => Below (wr.alloc (.cells #[.string nm, .slice a1 bl cp1, .int .i64 ((0 : Nat) : Int)] 47)).heap.size (wr.alloc (.cells #[.string nm, .slice a1 bl cp1, .int .i64 ((0 : Nat) : Int)] 47)) w')) (by kernel_rfl) (Below.refl _ _).drew (fun hHeld => ?_)
              refine wpAnyH_take (i := 0) (v := ?vv1001) rfl (by kernel_rfl) (by kernel_rfl) (by kernel_rfl) (fun _ _ _ h => h) (Or.inl ⟨by rfl, ?hy1001⟩) hHeld ?rr1001
              case hy1001 => (intro w' hSw; obtain ⟨e1, e2⟩ := HC26.out _ hSw; go_simp; try with_reducible rfl)
              try simp only [Act.put, List.setIfInBounds_toArray, List.set_cons_zero, List.set_cons_succ, List.getElem_toArray, List.getElem_cons_succ, List.getElem_cons_zero]
              refine wpAnyH_take (i := 1) (v := ?vv1002) rfl (by kernel_rfl) (by kernel_rfl) (by kernel_rfl) (fun _ _ _ h => h) (Or.inl ⟨by rfl, ?hy1002⟩) hHeld ?rr1002
              case hy1002 => (intro w' hSw; obtain ⟨e1, e2⟩ := HC26.out _ hSw; go_simp; try with_reducible rfl)
              try simp only [Act.put, List.setIfInBounds_toArray, List.set_cons_zero, List.set_cons_succ, List.getElem_toArray, List.getElem_cons_succ, List.getElem_cons_zero]
              refine wpAnyH_take (i := 2) (v := ?vv1003) rfl (by kernel_rfl) (by kernel_rfl) (by kernel_rfl) (fun _ _ _ h => h) (Or.inl ⟨by rfl, ?hy1003⟩) hHeld ?rr1003
              case hy1003 => (intro w' hSw; obtain ⟨e1, e2⟩ := HC26.out _ hSw; go_simp; try with_reducible rfl)
              try simp only [Act.put, List.setIfInBounds_toArray, List.set_cons_zero, List.set_cons_succ, List.getElem_toArray, List.getElem_cons_succ, List.getElem_cons_zero]
              refine wpAnyH_take (i := 3) (v := .bool false) rfl (by kernel_rfl) (by kernel_rfl) (by kernel_rfl) (fun _ _ _ h => h) (Or.inl ⟨by rfl, ?hy1004⟩) hHeld ?rr1004
              case hy1004 => (intro w' hSw; obtain ⟨e1, e2⟩ := HC26.out _ hSw; go_simp; try with_reducible rfl)
              try simp only [Act.put, List.setIfInBounds_toArray, List.set_cons_zero, List.set_cons_succ, List.getElem_toArray, List.getElem_cons_succ, List.getElem_cons_zero]
              refine wpAnyH_take (i := 4) (v := ?vv1005) rfl (by kernel_rfl) (by kernel_rfl) (by kernel_rfl) (fun _ _ _ h => h) (Or.inl ⟨by rfl, ?hy1005⟩) hHeld ?rr1005
              case hy1005 => (intro w' hSw; obtain ⟨e1, e2⟩ := HC26.out _ hSw; go_simp; try with_reducible rfl)
              try simp only [Act.put, List.setIfInBounds_toArray, List.set_cons_zero, List.set_cons_succ, List.getElem_toArray, List.getElem_cons_succ, List.getElem_cons_zero]
              refine wpAnyH_take (i := 5) (v := ?vv1006) rfl (by kernel_rfl) (by kernel_rfl) (by kernel_rfl) (fun _ _ _ h => h) (Or.inl ⟨by rfl, ?hy1006⟩) hHeld ?rr1006
              case hy1006 => (intro w' hSw; obtain ⟨e1, e2⟩ := HC26.out _ hSw; go_simp; try with_reducible rfl)
              try simp only [Act.put, List.setIfInBounds_toArray, List.set_cons_zero, List.set_cons_succ, List.getElem_toArray, List.getElem_cons_succ, List.getElem_cons_zero]
              refine wpAnyH_take (i := 6) (v := ?vv1007) rfl (by kernel_rfl) (by kernel_rfl) (by kernel_rfl) (fun _ _ _ h => h) (Or.inl ⟨by rfl, ?hy1007⟩) hHeld ?rr1007
              case hy1007 => (intro w' hSw; obtain ⟨e1, e2⟩ := HC26.out _ hSw; go_simp; try with_reducible rfl)
              try simp only [Act.put, List.setIfInBounds_toArray, List.set_cons_zero, List.set_cons_succ, List.getElem_toArray, List.getElem_cons_succ, List.getElem_cons_zero]
              refine wpAnyH_take (i := 7) (v := ?vv1008) rfl (by kernel_rfl) (by kernel_rfl) (by kernel_rfl) (fun _ _ _ h => h) (Or.inl ⟨by rfl, ?hy1008⟩) hHeld ?rr1008
              case hy1008 => (intro w' hSw; obtain ⟨e1, e2⟩ := HC26.out _ hSw; go_simp; try with_reducible rfl)
              try simp only [Act.put, List.setIfInBounds_toArray, List.set_cons_zero, List.set_cons_succ, List.getElem_toArray, List.getElem_cons_succ, List.getElem_cons_zero]
              refine wpAnyH_take (i := 8) (v := ?vv1009) rfl (by kernel_rfl) (by kernel_rfl) (by kernel_rfl) (fun _ _ _ h => h) (Or.inl ⟨by rfl, ?hy1009⟩) hHeld ?rr1009
              case hy1009 => (intro w' hSw; obtain ⟨e1, e2⟩ := HC26.out _ hSw; go_simp; try with_reducible rfl)
              try simp only [Act.put, List.setIfInBounds_toArray, List.set_cons_zero, List.set_cons_succ, List.getElem_toArray, List.getElem_cons_succ, List.getElem_cons_zero]
              refine wpAnyH_take (i := 9) (v := ?vv1010) rfl (by kernel_rfl) (by kernel_rfl) (by kernel_rfl) (fun _ _ _ h => h) (Or.inl ⟨by rfl, ?hy1010⟩) hHeld ?rr1010
              case hy1010 => (intro w' hSw; obtain ⟨e1, e2⟩ := HC26.out _ hSw; go_simp; try with_reducible rfl)
              try simp only [Act.put, List.setIfInBounds_toArray, List.set_cons_zero, List.set_cons_succ, List.getElem_toArray, List.getElem_cons_succ, List.getElem_cons_zero]
              refine wpAnyH_take (i := 10) (v := ?vv1011) rfl (by kernel_rfl) (by kernel_rfl) (by kernel_rfl) (fun _ _ _ h => h) (Or.inl ⟨by rfl, ?hy1011⟩) hHeld ?rr1011
              case hy1011 => (intro w' hSw; obtain ⟨e1, e2⟩ := HC26.out _ hSw; go_simp; try with_reducible rfl)
              try simp only [Act.put, List.setIfInBounds_toArray, List.set_cons_zero, List.set_cons_succ, List.getElem_toArray, List.getElem_cons_succ, List.getElem_cons_zero]
              refine wpAnyH_take (i := 11) (v := ?vv1012) rfl (by kernel_rfl) (by kernel_rfl) (by kernel_rfl) (fun _ _ _ h => h) (Or.inl ⟨by rfl, ?hy1012⟩) hHeld ?rr1012
              case hy1012 => (intro w' hSw; obtain ⟨e1, e2⟩ := HC26.out _ hSw; go_simp; try with_reducible rfl)
              try simp only [Act.put, List.setIfInBounds_toArray, List.set_cons_zero, List.set_cons_succ, List.getElem_toArray, List.getElem_cons_succ, List.getElem_cons_zero]
              refine wpAnyH_take (i := 12) (v := .bool true) rfl (by kernel_rfl) (by kernel_rfl) (by kernel_rfl) (fun _ _ _ h => h) (Or.inl ⟨by rfl, ?hy1013⟩) hHeld ?rr1013
              case hy1013 => (intro w' hSw; obtain ⟨e1, e2⟩ := HC26.out _ hSw; have e3 := HNe.out; go_simp; try with_reducible rfl)
              try simp only [Act.put, List.setIfInBounds_toArray, List.set_cons_zero, List.set_cons_succ, List.getElem_toArray, List.getElem_cons_succ, List.getElem_cons_zero]
              refine wpAnyH_take (i := 13) (v := .bool true) rfl (by kernel_rfl) (by kernel_rfl) (by kernel_rfl) (fun _ _ _ h => h) (Or.inl ⟨by rfl, ?hy1014⟩) hHeld ?rr1014
              case hy1014 => (intro w' hSw; obtain ⟨e1, e2⟩ := HC26.out _ hSw; go_simp; try with_reducible rfl)
              try simp only [Act.put, List.setIfInBounds_toArray, List.set_cons_zero, List.set_cons_succ, List.getElem_toArray, List.getElem_cons_succ, List.getElem_cons_zero]
              refine wpAnyH_done (by kernel_rfl) ?_ _
              clear hHeld
              go_wp2
              go_roundw
              case rel => exact ⟨k + 1, t, by omega, by omega, by go_num, rfl, Lib.hid (by rw [HNext.out]), Lib.hid ((HBr.out.alloc HBr.out.size _).drew)⟩
              case measure => simp [intOf]; omega
            · have ht' : (M : Int) ≤ (t : Int) := by omega
              obtain rfl := hs0
              clear hgone hnext hle hnm hbl hsr hf hst hkl by1 HFk hcp1 hsk hsp1
              go_wp2_with fail
              have HC26 : Hid (∀ V, Below (wr.alloc (.cells #[.string nm, .slice a1 bl cp1, .int .i64 ((0 : Nat) : Int)] 47)).heap.size (wr.alloc (.cells #[.string nm, .slice a1 bl cp1, .int .i64 ((0 : Nat) : Int)] 47)) V → V.cell? ⟨wr.heap.size, 0, none⟩ = some (.string nm) ∧ V.cell? ⟨wr.heap.size, 2, none⟩ = some (.int .i64 ((0 : Nat) : Int))) := Lib.hid (fun V hV => ⟨cell_later hV (cell_new wr _ _ _ 0), cell_later hV (cell_new wr _ _ _ 2)⟩)
              refine wp_region_held_drew (S := (fun w' => Below (wr.alloc (.cells #[.string nm, .slice a1 bl cp1, .int .i64 ((0 : Nat) : Int)] 47)).heap.size (wr.alloc (.cells #[.string nm, .slice a1 bl cp1, .int .i64 ((0 : Nat) : Int)] 47)) w')) (by kernel_rfl) (Below.refl _ _).drew (fun hHeld => ?_)
              refine wpAnyH_take (i := 0) (v := ?vv1015) rfl (by kernel_rfl) (by kernel_rfl) (by kernel_rfl) (fun _ _ _ h => h) (Or.inl ⟨by rfl, ?hy1015⟩) hHeld ?rr1015
              case hy1015 => (intro w' hSw; obtain ⟨e1, e2⟩ := HC26.out _ hSw; go_simp; try with_reducible rfl)
              try simp only [Act.put, List.setIfInBounds_toArray, List.set_cons_zero, List.set_cons_succ, List.getElem_toArray, List.getElem_cons_succ, List.getElem_cons_zero]
              refine wpAnyH_take (i := 1) (v := ?vv1016) rfl (by kernel_rfl) (by kernel_rfl) (by kernel_rfl) (fun _ _ _ h => h) (Or.inl ⟨by rfl, ?hy1016⟩) hHeld ?rr1016
              case hy1016 => (intro w' hSw; obtain ⟨e1, e2⟩ := HC26.out _ hSw; go_simp; try with_reducible rfl)
              try simp only [Act.put, List.setIfInBounds_toArray, List.set_cons_zero, List.set_cons_succ, List.getElem_toArray, List.getElem_cons_succ, List.getElem_cons_zero]
              refine wpAnyH_take (i := 2) (v := ?vv1017) rfl (by kernel_rfl) (by kernel_rfl) (by kernel_rfl) (fun _ _ _ h => h) (Or.inl ⟨by rfl, ?hy1017⟩) hHeld ?rr1017
              case hy1017 => (intro w' hSw; obtain ⟨e1, e2⟩ := HC26.out _ hSw; go_simp; try with_reducible rfl)
              try simp only [Act.put, List.setIfInBounds_toArray, List.set_cons_zero, List.set_cons_succ, List.getElem_toArray, List.getElem_cons_succ, List.getElem_cons_zero]
              refine wpAnyH_take (i := 3) (v := .bool true) rfl (by kernel_rfl) (by kernel_rfl) (by kernel_rfl) (fun _ _ _ h => h) (Or.inl ⟨by rfl, ?hy1018⟩) hHeld ?rr1018
              case hy1018 => (intro w' hSw; obtain ⟨e1, e2⟩ := HC26.out _ hSw; go_simp; try with_reducible rfl)
              try simp only [Act.put, List.setIfInBounds_toArray, List.set_cons_zero, List.set_cons_succ, List.getElem_toArray, List.getElem_cons_succ, List.getElem_cons_zero]
              refine wpAnyH_take (i := 4) (v := ?vv1019) rfl (by kernel_rfl) (by kernel_rfl) (by kernel_rfl) (fun _ _ _ h => h) (Or.inl ⟨by rfl, ?hy1019⟩) hHeld ?rr1019
              case hy1019 => (intro w' hSw; obtain ⟨e1, e2⟩ := HC26.out _ hSw; go_simp; try with_reducible rfl)
              try simp only [Act.put, List.setIfInBounds_toArray, List.set_cons_zero, List.set_cons_succ, List.getElem_toArray, List.getElem_cons_succ, List.getElem_cons_zero]
              refine wpAnyH_take (i := 5) (v := undef) rfl (by kernel_rfl) (by kernel_rfl) (by kernel_rfl) (fun _ _ _ h => h) (Or.inr ⟨by rfl, rfl⟩) hHeld ?rr1020
              try simp only [Act.put, List.setIfInBounds_toArray, List.set_cons_zero, List.set_cons_succ, List.getElem_toArray, List.getElem_cons_succ, List.getElem_cons_zero]
              refine wpAnyH_take (i := 6) (v := undef) rfl (by kernel_rfl) (by kernel_rfl) (by kernel_rfl) (fun _ _ _ h => h) (Or.inr ⟨by rfl, rfl⟩) hHeld ?rr1021
              try simp only [Act.put, List.setIfInBounds_toArray, List.set_cons_zero, List.set_cons_succ, List.getElem_toArray, List.getElem_cons_succ, List.getElem_cons_zero]
              refine wpAnyH_take (i := 7) (v := undef) rfl (by kernel_rfl) (by kernel_rfl) (by kernel_rfl) (fun _ _ _ h => h) (Or.inr ⟨by rfl, rfl⟩) hHeld ?rr1022
              try simp only [Act.put, List.setIfInBounds_toArray, List.set_cons_zero, List.set_cons_succ, List.getElem_toArray, List.getElem_cons_succ, List.getElem_cons_zero]
              refine wpAnyH_take (i := 8) (v := undef) rfl (by kernel_rfl) (by kernel_rfl) (by kernel_rfl) (fun _ _ _ h => h) (Or.inr ⟨by rfl, rfl⟩) hHeld ?rr1023
              try simp only [Act.put, List.setIfInBounds_toArray, List.set_cons_zero, List.set_cons_succ, List.getElem_toArray, List.getElem_cons_succ, List.getElem_cons_zero]
              refine wpAnyH_take (i := 9) (v := undef) rfl (by kernel_rfl) (by kernel_rfl) (by kernel_rfl) (fun _ _ _ h => h) (Or.inr ⟨by rfl, rfl⟩) hHeld ?rr1024
              try simp only [Act.put, List.setIfInBounds_toArray, List.set_cons_zero, List.set_cons_succ, List.getElem_toArray, List.getElem_cons_succ, List.getElem_cons_zero]
              refine wpAnyH_take (i := 10) (v := undef) rfl (by kernel_rfl) (by kernel_rfl) (by kernel_rfl) (fun _ _ _ h => h) (Or.inr ⟨by rfl, rfl⟩) hHeld ?rr1025
              try simp only [Act.put, List.setIfInBounds_toArray, List.set_cons_zero, List.set_cons_succ, List.getElem_toArray, List.getElem_cons_succ, List.getElem_cons_zero]
              refine wpAnyH_take (i := 11) (v := undef) rfl (by kernel_rfl) (by kernel_rfl) (by kernel_rfl) (fun _ _ _ h => h) (Or.inr ⟨by rfl, rfl⟩) hHeld ?rr1026
              try simp only [Act.put, List.setIfInBounds_toArray, List.set_cons_zero, List.set_cons_succ, List.getElem_toArray, List.getElem_cons_succ, List.getElem_cons_zero]
              refine wpAnyH_take (i := 12) (v := undef) rfl (by kernel_rfl) (by kernel_rfl) (by kernel_rfl) (fun _ _ _ h => h) (Or.inr ⟨by rfl, rfl⟩) hHeld ?rr1027
              try simp only [Act.put, List.setIfInBounds_toArray, List.set_cons_zero, List.set_cons_succ, List.getElem_toArray, List.getElem_cons_succ, List.getElem_cons_zero]
              refine wpAnyH_take (i := 13) (v := .bool true) rfl (by kernel_rfl) (by kernel_rfl) (by kernel_rfl) (fun _ _ _ h => h) (Or.inl ⟨by rfl, ?hy1028⟩) hHeld ?rr1028
              case hy1028 => (intro w' hSw; obtain ⟨e1, e2⟩ := HC26.out _ hSw; go_simp; try with_reducible rfl)
              try simp only [Act.put, List.setIfInBounds_toArray, List.set_cons_zero, List.set_cons_succ, List.getElem_toArray, List.getElem_cons_succ, List.getElem_cons_zero]
              refine wpAnyH_done (by kernel_rfl) ?_ _
              clear hHeld
              go_wp2
              go_roundw
              case rel => exact ⟨k + 1, t, by omega, by omega, by go_num, rfl, Lib.hid (by rw [HNext.out]), Lib.hid ((HBr.out.alloc HBr.out.size _).drew)⟩
              case measure => simp [intOf]; omega
          · obtain ⟨hthere, hnext, hlt⟩ := crashed_at acc L k hkl hst
            rw [← HT.out] at hthere hnext hlt
            have HNext := Lib.hid hnext
            have htm : t < M := by rw [HMm.out]; exact hlt
            have ht' : ¬ (M : Int) ≤ (t : Int) := by omega
            obtain ⟨g3, a3, cp3, rfl, c30, c31, c32, by3, hcp3, hsp3⟩ := (HZ3.out.later HBr.out).at_ hlt
            have hg3 : g3 < wr.heap.size := World.block_lt_of_cell? wr _ c30
            have he : (crashed acc L)[t] = crashF acc L[k] := by
              rw [List.getElem?_eq_getElem hlt] at hthere
              exact Option.some.inj hthere
            rw [he, ← hf] at c30 c31 c32 by3 hcp3
            obtain ⟨h1, h2, h3⟩ := HFk.out
            obtain ⟨ln, hln⟩ : ∃ ln, ln = leftN acc f := ⟨_, rfl⟩
            rw [h1, ← hln] at c31 hcp3
            replace c32 : wr.cell? ⟨g3, t * 3 + 2, none⟩ = some (.int .i64 (ln : Int)) := by rw [hln]; exact c32
            replace c30 : wr.cell? ⟨g3, t * 3, none⟩ = some (.string nm) := by rw [hnm]; exact c30
            rw [← hln, ← hsr] at h2
            rw [← hln, ← hbl] at h3
            obtain ⟨X, hX⟩ : ∃ X : ByteArray, X = ⟨(f.bytes.take ln).toArray⟩ := ⟨_, rfl⟩
            have by3 : Byt wr a3 (f.bytes.take ln) := by rw [hln]; exact by3
            have by1' : Byt wr a1 (f.bytes.take ln) := fun i hi => by
              obtain ⟨b, o, e, hc⟩ := by1 i (by rw [List.length_take] at hi; omega)
              exact ⟨b, o, e, by rw [hc]; simp⟩
            have hlt2 : (f.bytes.take ln).length = ln := by rw [List.length_take]; omega
            have HCA : Hid (∀ V, Below wr.heap.size wr V → (convert 31 9 (.slice a3 ln cp3)).run Try.prog V = .ok (.string X) V) := Lib.hid (fun V hV => by
              have := run_convert_byt (P := Try.prog) Try.underlying31 Try.underlying5 Try.underlying9 cp3 (by3.later hV)
              rw [hlt2, ← hX] at this; exact this)
            have HCB : Hid (∀ V, Below wr.heap.size wr V → (convert 31 9 (.slice a1 ln cp1)).run Try.prog V = .ok (.string X) V) := Lib.hid (fun V hV => by
              have := run_convert_byt (P := Try.prog) Try.underlying31 Try.underlying5 Try.underlying9 cp1 (by1'.later hV)
              rw [hlt2, ← hX] at this; exact this)
            have HSl := Lib.hid (run_slice_to a1 bl ln cp1 (by omega) hsp1)
            have q1 : ¬ (ln : Int) < (sr : Int) := by omega
            have q2 : ¬ (bl : Int) < (ln : Int) := by omega
            have hlnb : (ln : Int) ≤ 67108864 := by omega
            have hlnz : (0 : Int) ≤ (ln : Int) := by omega
            have hcc : ln ≤ cp1 := by omega
            clear hthere hnext hlt he h1 hln hX hsp3 hsp1 by1 by3 by1' hlt2 hnm hbl hsr hf hst hkl HFk hcp1 hcp3 hsk
            go_wp2_with fail
            have HC26 : Hid (∀ V, Below (wr.alloc (.cells #[.string nm, .slice a1 bl cp1, .int .i64 (sr : Int)] 47)).heap.size (wr.alloc (.cells #[.string nm, .slice a1 bl cp1, .int .i64 (sr : Int)] 47)) V → V.cell? ⟨wr.heap.size, 0, none⟩ = some (.string nm) ∧ V.cell? ⟨g3, t * 3, none⟩ = some (.string nm)) := Lib.hid (fun V hV => ⟨cell_later hV (cell_new wr _ _ _ 0), cell_later hV (cell_old _ c30)⟩)
            refine wp_region_held_drew (S := (fun w' => Below (wr.alloc (.cells #[.string nm, .slice a1 bl cp1, .int .i64 (sr : Int)] 47)).heap.size (wr.alloc (.cells #[.string nm, .slice a1 bl cp1, .int .i64 (sr : Int)] 47)) w')) (by kernel_rfl) (Below.refl _ _).drew (fun hHeld => ?_)
            refine wpAnyH_take (i := 0) (v := ?vv1029) rfl (by kernel_rfl) (by kernel_rfl) (by kernel_rfl) (fun _ _ _ h => h) (Or.inl ⟨by rfl, ?hy1029⟩) hHeld ?rr1029
            case hy1029 => (intro w' hSw; obtain ⟨e1, e2⟩ := HC26.out _ hSw; go_simp; try with_reducible rfl)
            try simp only [Act.put, List.setIfInBounds_toArray, List.set_cons_zero, List.set_cons_succ, List.getElem_toArray, List.getElem_cons_succ, List.getElem_cons_zero]
            refine wpAnyH_take (i := 1) (v := ?vv1030) rfl (by kernel_rfl) (by kernel_rfl) (by kernel_rfl) (fun _ _ _ h => h) (Or.inl ⟨by rfl, ?hy1030⟩) hHeld ?rr1030
            case hy1030 => (intro w' hSw; obtain ⟨e1, e2⟩ := HC26.out _ hSw; go_simp; try with_reducible rfl)
            try simp only [Act.put, List.setIfInBounds_toArray, List.set_cons_zero, List.set_cons_succ, List.getElem_toArray, List.getElem_cons_succ, List.getElem_cons_zero]
            refine wpAnyH_take (i := 2) (v := ?vv1031) rfl (by kernel_rfl) (by kernel_rfl) (by kernel_rfl) (fun _ _ _ h => h) (Or.inl ⟨by rfl, ?hy1031⟩) hHeld ?rr1031
            case hy1031 => (intro w' hSw; obtain ⟨e1, e2⟩ := HC26.out _ hSw; go_simp; try with_reducible rfl)
            try simp only [Act.put, List.setIfInBounds_toArray, List.set_cons_zero, List.set_cons_succ, List.getElem_toArray, List.getElem_cons_succ, List.getElem_cons_zero]
            refine wpAnyH_take (i := 3) (v := .bool false) rfl (by kernel_rfl) (by kernel_rfl) (by kernel_rfl) (fun _ _ _ h => h) (Or.inl ⟨by rfl, ?hy1032⟩) hHeld ?rr1032
            case hy1032 => (intro w' hSw; obtain ⟨e1, e2⟩ := HC26.out _ hSw; go_simp; try with_reducible rfl)
            try simp only [Act.put, List.setIfInBounds_toArray, List.set_cons_zero, List.set_cons_succ, List.getElem_toArray, List.getElem_cons_succ, List.getElem_cons_zero]
            refine wpAnyH_take (i := 4) (v := ?vv1033) rfl (by kernel_rfl) (by kernel_rfl) (by kernel_rfl) (fun _ _ _ h => h) (Or.inl ⟨by rfl, ?hy1033⟩) hHeld ?rr1033
            case hy1033 => (intro w' hSw; obtain ⟨e1, e2⟩ := HC26.out _ hSw; go_simp; try with_reducible rfl)
            try simp only [Act.put, List.setIfInBounds_toArray, List.set_cons_zero, List.set_cons_succ, List.getElem_toArray, List.getElem_cons_succ, List.getElem_cons_zero]
            refine wpAnyH_take (i := 5) (v := ?vv1034) rfl (by kernel_rfl) (by kernel_rfl) (by kernel_rfl) (fun _ _ _ h => h) (Or.inl ⟨by rfl, ?hy1034⟩) hHeld ?rr1034
            case hy1034 => (intro w' hSw; obtain ⟨e1, e2⟩ := HC26.out _ hSw; go_simp; try with_reducible rfl)
            try simp only [Act.put, List.setIfInBounds_toArray, List.set_cons_zero, List.set_cons_succ, List.getElem_toArray, List.getElem_cons_succ, List.getElem_cons_zero]
            refine wpAnyH_take (i := 6) (v := ?vv1035) rfl (by kernel_rfl) (by kernel_rfl) (by kernel_rfl) (fun _ _ _ h => h) (Or.inl ⟨by rfl, ?hy1035⟩) hHeld ?rr1035
            case hy1035 => (intro w' hSw; obtain ⟨e1, e2⟩ := HC26.out _ hSw; go_simp; try with_reducible rfl)
            try simp only [Act.put, List.setIfInBounds_toArray, List.set_cons_zero, List.set_cons_succ, List.getElem_toArray, List.getElem_cons_succ, List.getElem_cons_zero]
            refine wpAnyH_take (i := 7) (v := ?vv1036) rfl (by kernel_rfl) (by kernel_rfl) (by kernel_rfl) (fun _ _ _ h => h) (Or.inl ⟨by rfl, ?hy1036⟩) hHeld ?rr1036
            case hy1036 => (intro w' hSw; obtain ⟨e1, e2⟩ := HC26.out _ hSw; go_simp; try with_reducible rfl)
            try simp only [Act.put, List.setIfInBounds_toArray, List.set_cons_zero, List.set_cons_succ, List.getElem_toArray, List.getElem_cons_succ, List.getElem_cons_zero]
            refine wpAnyH_take (i := 8) (v := ?vv1037) rfl (by kernel_rfl) (by kernel_rfl) (by kernel_rfl) (fun _ _ _ h => h) (Or.inl ⟨by rfl, ?hy1037⟩) hHeld ?rr1037
            case hy1037 => (intro w' hSw; obtain ⟨e1, e2⟩ := HC26.out _ hSw; go_simp; try with_reducible rfl)
            try simp only [Act.put, List.setIfInBounds_toArray, List.set_cons_zero, List.set_cons_succ, List.getElem_toArray, List.getElem_cons_succ, List.getElem_cons_zero]
            refine wpAnyH_take (i := 9) (v := ?vv1038) rfl (by kernel_rfl) (by kernel_rfl) (by kernel_rfl) (fun _ _ _ h => h) (Or.inl ⟨by rfl, ?hy1038⟩) hHeld ?rr1038
            case hy1038 => (intro w' hSw; obtain ⟨e1, e2⟩ := HC26.out _ hSw; go_simp; try with_reducible rfl)
            try simp only [Act.put, List.setIfInBounds_toArray, List.set_cons_zero, List.set_cons_succ, List.getElem_toArray, List.getElem_cons_succ, List.getElem_cons_zero]
            refine wpAnyH_take (i := 10) (v := ?vv1039) rfl (by kernel_rfl) (by kernel_rfl) (by kernel_rfl) (fun _ _ _ h => h) (Or.inl ⟨by rfl, ?hy1039⟩) hHeld ?rr1039
            case hy1039 => (intro w' hSw; obtain ⟨e1, e2⟩ := HC26.out _ hSw; go_simp; try with_reducible rfl)
            try simp only [Act.put, List.setIfInBounds_toArray, List.set_cons_zero, List.set_cons_succ, List.getElem_toArray, List.getElem_cons_succ, List.getElem_cons_zero]
            refine wpAnyH_take (i := 11) (v := ?vv1040) rfl (by kernel_rfl) (by kernel_rfl) (by kernel_rfl) (fun _ _ _ h => h) (Or.inl ⟨by rfl, ?hy1040⟩) hHeld ?rr1040
            case hy1040 => (intro w' hSw; obtain ⟨e1, e2⟩ := HC26.out _ hSw; go_simp; try with_reducible rfl)
            try simp only [Act.put, List.setIfInBounds_toArray, List.set_cons_zero, List.set_cons_succ, List.getElem_toArray, List.getElem_cons_succ, List.getElem_cons_zero]
            refine wpAnyH_take (i := 12) (v := .bool false) rfl (by kernel_rfl) (by kernel_rfl) (by kernel_rfl) (fun _ _ _ h => h) (Or.inl ⟨by rfl, ?hy1041⟩) hHeld ?rr1041
            case hy1041 => (intro w' hSw; obtain ⟨e1, e2⟩ := HC26.out _ hSw; go_simp; try with_reducible rfl)
            try simp only [Act.put, List.setIfInBounds_toArray, List.set_cons_zero, List.set_cons_succ, List.getElem_toArray, List.getElem_cons_succ, List.getElem_cons_zero]
            refine wpAnyH_take (i := 13) (v := .bool false) rfl (by kernel_rfl) (by kernel_rfl) (by kernel_rfl) (fun _ _ _ h => h) (Or.inl ⟨by rfl, ?hy1042⟩) hHeld ?rr1042
            case hy1042 => (intro w' hSw; obtain ⟨e1, e2⟩ := HC26.out _ hSw; go_simp; try with_reducible rfl)
            try simp only [Act.put, List.setIfInBounds_toArray, List.set_cons_zero, List.set_cons_succ, List.getElem_toArray, List.getElem_cons_succ, List.getElem_cons_zero]
            refine wpAnyH_done (by kernel_rfl) ?_ _
            clear hHeld
            go_wp2_with fail
            have HC31 : Hid (∀ V, Below ((wr.alloc (.cells #[.string nm, .slice a1 bl cp1, .int .i64 (sr : Int)] 47)).alloc (.cells #[.string nm, .slice a3 ln cp3, .int .i64 (ln : Int)] 47)).drew.heap.size ((wr.alloc (.cells #[.string nm, .slice a1 bl cp1, .int .i64 (sr : Int)] 47)).alloc (.cells #[.string nm, .slice a3 ln cp3, .int .i64 (ln : Int)] 47)).drew V → V.cell? ⟨wr.heap.size, 1, none⟩ = some (.slice a1 bl cp1) ∧ V.cell? ⟨wr.heap.size, 2, none⟩ = some (.int .i64 (sr : Int)) ∧ V.cell? ⟨wr.heap.size + 1, 1, none⟩ = some (.slice a3 ln cp3) ∧ V.cell? ⟨wr.heap.size + 1, 2, none⟩ = some (.int .i64 (ln : Int))) := Lib.hid (fun V hV => ⟨cell_later hV (cell_old (w := (wr.alloc (.cells #[.string nm, .slice a1 bl cp1, .int .i64 (sr : Int)] 47)).drew) _ (cell_new wr _ _ _ 1)), cell_later hV (cell_old (w := (wr.alloc (.cells #[.string nm, .slice a1 bl cp1, .int .i64 (sr : Int)] 47)).drew) _ (cell_new wr _ _ _ 2)), cell_later hV (by simp), cell_later hV (by simp)⟩)
            have HW31 : Hid (∀ V, Below ((wr.alloc (.cells #[.string nm, .slice a1 bl cp1, .int .i64 (sr : Int)] 47)).alloc (.cells #[.string nm, .slice a3 ln cp3, .int .i64 (ln : Int)] 47)).drew.heap.size ((wr.alloc (.cells #[.string nm, .slice a1 bl cp1, .int .i64 (sr : Int)] 47)).alloc (.cells #[.string nm, .slice a3 ln cp3, .int .i64 (ln : Int)] 47)).drew V → Below wr.heap.size wr V) := Lib.hid (fun V hV => (((below_alloc wr (.cells #[.string nm, .slice a1 bl cp1, .int .i64 (sr : Int)] 47)).alloc (by simp) (.cells #[.string nm, .slice a3 ln cp3, .int .i64 (ln : Int)] 47)).drew).trans (hV.mono (show wr.heap.size ≤ _ by simp; omega)))
            refine wp_region_held_drew (S := (fun w' => Below ((wr.alloc (.cells #[.string nm, .slice a1 bl cp1, .int .i64 (sr : Int)] 47)).alloc (.cells #[.string nm, .slice a3 ln cp3, .int .i64 (ln : Int)] 47)).drew.heap.size ((wr.alloc (.cells #[.string nm, .slice a1 bl cp1, .int .i64 (sr : Int)] 47)).alloc (.cells #[.string nm, .slice a3 ln cp3, .int .i64 (ln : Int)] 47)).drew w')) (by kernel_rfl) (Below.refl _ _).drew (fun hHeld => ?_)
            refine wpAnyH_take (i := 0) (v := ?vv1043) rfl (by kernel_rfl) (by kernel_rfl) (by kernel_rfl) (fun _ _ _ h => h) (Or.inl ⟨by rfl, ?hy1043⟩) hHeld ?rr1043
            case hy1043 => (intro w' hSw; obtain ⟨e1, e2, e3, e4⟩ := HC31.out _ hSw; have e5 := HCA.out _ (HW31.out _ hSw); have e6 := HCB.out _ (HW31.out _ hSw); have e7 := HSl.out w'; go_simp; try with_reducible rfl)
            try simp only [Act.put, List.setIfInBounds_toArray, List.set_cons_zero, List.set_cons_succ, List.getElem_toArray, List.getElem_cons_succ, List.getElem_cons_zero]
            refine wpAnyH_take (i := 1) (v := ?vv1044) rfl (by kernel_rfl) (by kernel_rfl) (by kernel_rfl) (fun _ _ _ h => h) (Or.inl ⟨by rfl, ?hy1044⟩) hHeld ?rr1044
            case hy1044 => (intro w' hSw; obtain ⟨e1, e2, e3, e4⟩ := HC31.out _ hSw; have e5 := HCA.out _ (HW31.out _ hSw); have e6 := HCB.out _ (HW31.out _ hSw); have e7 := HSl.out w'; go_simp; try with_reducible rfl)
            try simp only [Act.put, List.setIfInBounds_toArray, List.set_cons_zero, List.set_cons_succ, List.getElem_toArray, List.getElem_cons_succ, List.getElem_cons_zero]
            refine wpAnyH_take (i := 2) (v := ?vv1045) rfl (by kernel_rfl) (by kernel_rfl) (by kernel_rfl) (fun _ _ _ h => h) (Or.inl ⟨by rfl, ?hy1045⟩) hHeld ?rr1045
            case hy1045 => (intro w' hSw; obtain ⟨e1, e2, e3, e4⟩ := HC31.out _ hSw; have e5 := HCA.out _ (HW31.out _ hSw); have e6 := HCB.out _ (HW31.out _ hSw); have e7 := HSl.out w'; go_simp; try with_reducible rfl)
            try simp only [Act.put, List.setIfInBounds_toArray, List.set_cons_zero, List.set_cons_succ, List.getElem_toArray, List.getElem_cons_succ, List.getElem_cons_zero]
            refine wpAnyH_take (i := 3) (v := ?vv1046) rfl (by kernel_rfl) (by kernel_rfl) (by kernel_rfl) (fun _ _ _ h => h) (Or.inl ⟨by rfl, ?hy1046⟩) hHeld ?rr1046
            case hy1046 => (intro w' hSw; obtain ⟨e1, e2, e3, e4⟩ := HC31.out _ hSw; have e5 := HCA.out _ (HW31.out _ hSw); have e6 := HCB.out _ (HW31.out _ hSw); have e7 := HSl.out w'; go_simp; try with_reducible rfl)
            try simp only [Act.put, List.setIfInBounds_toArray, List.set_cons_zero, List.set_cons_succ, List.getElem_toArray, List.getElem_cons_succ, List.getElem_cons_zero]
            refine wpAnyH_take (i := 4) (v := ?vv1047) rfl (by kernel_rfl) (by kernel_rfl) (by kernel_rfl) (fun _ _ _ h => h) (Or.inl ⟨by rfl, ?hy1047⟩) hHeld ?rr1047
            case hy1047 => (intro w' hSw; obtain ⟨e1, e2, e3, e4⟩ := HC31.out _ hSw; have e5 := HCA.out _ (HW31.out _ hSw); have e6 := HCB.out _ (HW31.out _ hSw); have e7 := HSl.out w'; go_simp; try with_reducible rfl)
            try simp only [Act.put, List.setIfInBounds_toArray, List.set_cons_zero, List.set_cons_succ, List.getElem_toArray, List.getElem_cons_succ, List.getElem_cons_zero]
            refine wpAnyH_take (i := 5) (v := .bool false) rfl (by kernel_rfl) (by kernel_rfl) (by kernel_rfl) (fun _ _ _ h => h) (Or.inl ⟨by rfl, ?hy1048⟩) hHeld ?rr1048
            case hy1048 => (intro w' hSw; obtain ⟨e1, e2, e3, e4⟩ := HC31.out _ hSw; have e5 := HCA.out _ (HW31.out _ hSw); have e6 := HCB.out _ (HW31.out _ hSw); have e7 := HSl.out w'; go_simp; try with_reducible rfl)
            try simp only [Act.put, List.setIfInBounds_toArray, List.set_cons_zero, List.set_cons_succ, List.getElem_toArray, List.getElem_cons_succ, List.getElem_cons_zero]
            refine wpAnyH_take (i := 6) (v := ?vv1049) rfl (by kernel_rfl) (by kernel_rfl) (by kernel_rfl) (fun _ _ _ h => h) (Or.inl ⟨by rfl, ?hy1049⟩) hHeld ?rr1049
            case hy1049 => (intro w' hSw; obtain ⟨e1, e2, e3, e4⟩ := HC31.out _ hSw; have e5 := HCA.out _ (HW31.out _ hSw); have e6 := HCB.out _ (HW31.out _ hSw); have e7 := HSl.out w'; go_simp; try with_reducible rfl)
            try simp only [Act.put, List.setIfInBounds_toArray, List.set_cons_zero, List.set_cons_succ, List.getElem_toArray, List.getElem_cons_succ, List.getElem_cons_zero]
            refine wpAnyH_take (i := 7) (v := ?vv1050) rfl (by kernel_rfl) (by kernel_rfl) (by kernel_rfl) (fun _ _ _ h => h) (Or.inl ⟨by rfl, ?hy1050⟩) hHeld ?rr1050
            case hy1050 => (intro w' hSw; obtain ⟨e1, e2, e3, e4⟩ := HC31.out _ hSw; have e5 := HCA.out _ (HW31.out _ hSw); have e6 := HCB.out _ (HW31.out _ hSw); have e7 := HSl.out w'; go_simp; try with_reducible rfl)
            try simp only [Act.put, List.setIfInBounds_toArray, List.set_cons_zero, List.set_cons_succ, List.getElem_toArray, List.getElem_cons_succ, List.getElem_cons_zero]
            refine wpAnyH_take (i := 8) (v := ?vv1051) rfl (by kernel_rfl) (by kernel_rfl) (by kernel_rfl) (fun _ _ _ h => h) (Or.inl ⟨by rfl, ?hy1051⟩) hHeld ?rr1051
            case hy1051 => (intro w' hSw; obtain ⟨e1, e2, e3, e4⟩ := HC31.out _ hSw; have e5 := HCA.out _ (HW31.out _ hSw); have e6 := HCB.out _ (HW31.out _ hSw); have e7 := HSl.out w'; go_simp; try with_reducible rfl)
            try simp only [Act.put, List.setIfInBounds_toArray, List.set_cons_zero, List.set_cons_succ, List.getElem_toArray, List.getElem_cons_succ, List.getElem_cons_zero]
            refine wpAnyH_take (i := 9) (v := ?vv1052) rfl (by kernel_rfl) (by kernel_rfl) (by kernel_rfl) (fun _ _ _ h => h) (Or.inl ⟨by rfl, ?hy1052⟩) hHeld ?rr1052
            case hy1052 => (intro w' hSw; obtain ⟨e1, e2, e3, e4⟩ := HC31.out _ hSw; have e5 := HCA.out _ (HW31.out _ hSw); have e6 := HCB.out _ (HW31.out _ hSw); have e7 := HSl.out w'; go_simp; try with_reducible rfl)
            try simp only [Act.put, List.setIfInBounds_toArray, List.set_cons_zero, List.set_cons_succ, List.getElem_toArray, List.getElem_cons_succ, List.getElem_cons_zero]
            refine wpAnyH_take (i := 10) (v := ?vv1053) rfl (by kernel_rfl) (by kernel_rfl) (by kernel_rfl) (fun _ _ _ h => h) (Or.inl ⟨by rfl, ?hy1053⟩) hHeld ?rr1053
            case hy1053 => (intro w' hSw; obtain ⟨e1, e2, e3, e4⟩ := HC31.out _ hSw; have e5 := HCA.out _ (HW31.out _ hSw); have e6 := HCB.out _ (HW31.out _ hSw); have e7 := HSl.out w'; go_simp; try with_reducible rfl)
            try simp only [Act.put, List.setIfInBounds_toArray, List.set_cons_zero, List.set_cons_succ, List.getElem_toArray, List.getElem_cons_succ, List.getElem_cons_zero]
            refine wpAnyH_take (i := 11) (v := ?vv1054) rfl (by kernel_rfl) (by kernel_rfl) (by kernel_rfl) (fun _ _ _ h => h) (Or.inl ⟨by rfl, ?hy1054⟩) hHeld ?rr1054
            case hy1054 => (intro w' hSw; obtain ⟨e1, e2, e3, e4⟩ := HC31.out _ hSw; have e5 := HCA.out _ (HW31.out _ hSw); have e6 := HCB.out _ (HW31.out _ hSw); have e7 := HSl.out w'; go_simp; try with_reducible rfl)
            try simp only [Act.put, List.setIfInBounds_toArray, List.set_cons_zero, List.set_cons_succ, List.getElem_toArray, List.getElem_cons_succ, List.getElem_cons_zero]
            refine wpAnyH_take (i := 12) (v := ?vv1055) rfl (by kernel_rfl) (by kernel_rfl) (by kernel_rfl) (fun _ _ _ h => h) (Or.inl ⟨by rfl, ?hy1055⟩) hHeld ?rr1055
            case hy1055 => (intro w' hSw; obtain ⟨e1, e2, e3, e4⟩ := HC31.out _ hSw; have e5 := HCA.out _ (HW31.out _ hSw); have e6 := HCB.out _ (HW31.out _ hSw); have e7 := HSl.out w'; go_simp; try with_reducible rfl)
            try simp only [Act.put, List.setIfInBounds_toArray, List.set_cons_zero, List.set_cons_succ, List.getElem_toArray, List.getElem_cons_succ, List.getElem_cons_zero]
            refine wpAnyH_take (i := 13) (v := .bool false) rfl (by kernel_rfl) (by kernel_rfl) (by kernel_rfl) (fun _ _ _ h => h) (Or.inl ⟨by rfl, ?hy1056⟩) hHeld ?rr1056
            case hy1056 => (intro w' hSw; obtain ⟨e1, e2, e3, e4⟩ := HC31.out _ hSw; have e5 := HCA.out _ (HW31.out _ hSw); have e6 := HCB.out _ (HW31.out _ hSw); have e7 := HSl.out w'; go_simp; try with_reducible rfl)
            try simp only [Act.put, List.setIfInBounds_toArray, List.set_cons_zero, List.set_cons_succ, List.getElem_toArray, List.getElem_cons_succ, List.getElem_cons_zero]
            refine wpAnyH_take (i := 14) (v := .bool false) rfl (by kernel_rfl) (by kernel_rfl) (by kernel_rfl) (fun _ _ _ h => h) (Or.inl ⟨by rfl, ?hy1057⟩) hHeld ?rr1057
            case hy1057 => (intro w' hSw; obtain ⟨e1, e2, e3, e4⟩ := HC31.out _ hSw; have e5 := HCA.out _ (HW31.out _ hSw); have e6 := HCB.out _ (HW31.out _ hSw); have e7 := HSl.out w'; go_simp; try with_reducible rfl)
            try simp only [Act.put, List.setIfInBounds_toArray, List.set_cons_zero, List.set_cons_succ, List.getElem_toArray, List.getElem_cons_succ, List.getElem_cons_zero]
            refine wpAnyH_take (i := 15) (v := ?vv1058) rfl (by kernel_rfl) (by kernel_rfl) (by kernel_rfl) (fun _ _ _ h => h) (Or.inl ⟨by rfl, ?hy1058⟩) hHeld ?rr1058
            case hy1058 => (intro w' hSw; obtain ⟨e1, e2, e3, e4⟩ := HC31.out _ hSw; have e5 := HCA.out _ (HW31.out _ hSw); have e6 := HCB.out _ (HW31.out _ hSw); have e7 := HSl.out w'; go_simp; try with_reducible rfl)
            try simp only [Act.put, List.setIfInBounds_toArray, List.set_cons_zero, List.set_cons_succ, List.getElem_toArray, List.getElem_cons_succ, List.getElem_cons_zero]
            refine wpAnyH_take (i := 16) (v := ?vv1059) rfl (by kernel_rfl) (by kernel_rfl) (by kernel_rfl) (fun _ _ _ h => h) (Or.inl ⟨by rfl, ?hy1059⟩) hHeld ?rr1059
            case hy1059 => (intro w' hSw; obtain ⟨e1, e2, e3, e4⟩ := HC31.out _ hSw; have e5 := HCA.out _ (HW31.out _ hSw); have e6 := HCB.out _ (HW31.out _ hSw); have e7 := HSl.out w'; go_simp; try with_reducible rfl)
            try simp only [Act.put, List.setIfInBounds_toArray, List.set_cons_zero, List.set_cons_succ, List.getElem_toArray, List.getElem_cons_succ, List.getElem_cons_zero]
            refine wpAnyH_take (i := 17) (v := ?vv1060) rfl (by kernel_rfl) (by kernel_rfl) (by kernel_rfl) (fun _ _ _ h => h) (Or.inl ⟨by rfl, ?hy1060⟩) hHeld ?rr1060
            case hy1060 => (intro w' hSw; obtain ⟨e1, e2, e3, e4⟩ := HC31.out _ hSw; have e5 := HCA.out _ (HW31.out _ hSw); have e6 := HCB.out _ (HW31.out _ hSw); have e7 := HSl.out w'; go_simp; try with_reducible rfl)
            try simp only [Act.put, List.setIfInBounds_toArray, List.set_cons_zero, List.set_cons_succ, List.getElem_toArray, List.getElem_cons_succ, List.getElem_cons_zero]
            refine wpAnyH_take (i := 18) (v := ?vv1061) rfl (by kernel_rfl) (by kernel_rfl) (by kernel_rfl) (fun _ _ _ h => h) (Or.inl ⟨by rfl, ?hy1061⟩) hHeld ?rr1061
            case hy1061 => (intro w' hSw; obtain ⟨e1, e2, e3, e4⟩ := HC31.out _ hSw; have e5 := HCA.out _ (HW31.out _ hSw); have e6 := HCB.out _ (HW31.out _ hSw); have e7 := HSl.out w'; go_simp; try with_reducible rfl)
            try simp only [Act.put, List.setIfInBounds_toArray, List.set_cons_zero, List.set_cons_succ, List.getElem_toArray, List.getElem_cons_succ, List.getElem_cons_zero]
            refine wpAnyH_take (i := 19) (v := ?vv1062) rfl (by kernel_rfl) (by kernel_rfl) (by kernel_rfl) (fun _ _ _ h => h) (Or.inl ⟨by rfl, ?hy1062⟩) hHeld ?rr1062
            case hy1062 => (intro w' hSw; obtain ⟨e1, e2, e3, e4⟩ := HC31.out _ hSw; have e5 := HCA.out _ (HW31.out _ hSw); have e6 := HCB.out _ (HW31.out _ hSw); have e7 := HSl.out w'; go_simp; try with_reducible rfl)
            try simp only [Act.put, List.setIfInBounds_toArray, List.set_cons_zero, List.set_cons_succ, List.getElem_toArray, List.getElem_cons_succ, List.getElem_cons_zero]
            refine wpAnyH_take (i := 20) (v := ?vv1063) rfl (by kernel_rfl) (by kernel_rfl) (by kernel_rfl) (fun _ _ _ h => h) (Or.inl ⟨by rfl, ?hy1063⟩) hHeld ?rr1063
            case hy1063 => (intro w' hSw; obtain ⟨e1, e2, e3, e4⟩ := HC31.out _ hSw; have e5 := HCA.out _ (HW31.out _ hSw); have e6 := HCB.out _ (HW31.out _ hSw); have e7 := HSl.out w'; go_simp; try with_reducible rfl)
            try simp only [Act.put, List.setIfInBounds_toArray, List.set_cons_zero, List.set_cons_succ, List.getElem_toArray, List.getElem_cons_succ, List.getElem_cons_zero]
            refine wpAnyH_take (i := 21) (v := .bool false) rfl (by kernel_rfl) (by kernel_rfl) (by kernel_rfl) (fun _ _ _ h => h) (Or.inl ⟨by rfl, ?hy1064⟩) hHeld ?rr1064
            case hy1064 => (intro w' hSw; obtain ⟨e1, e2, e3, e4⟩ := HC31.out _ hSw; have e5 := HCA.out _ (HW31.out _ hSw); have e6 := HCB.out _ (HW31.out _ hSw); have e7 := HSl.out w'; go_simp; try with_reducible rfl)
            try simp only [Act.put, List.setIfInBounds_toArray, List.set_cons_zero, List.set_cons_succ, List.getElem_toArray, List.getElem_cons_succ, List.getElem_cons_zero]
            refine wpAnyH_take (i := 22) (v := .bool false) rfl (by kernel_rfl) (by kernel_rfl) (by kernel_rfl) (fun _ _ _ h => h) (Or.inl ⟨by rfl, ?hy1065⟩) hHeld ?rr1065
            case hy1065 => (intro w' hSw; obtain ⟨e1, e2, e3, e4⟩ := HC31.out _ hSw; have e5 := HCA.out _ (HW31.out _ hSw); have e6 := HCB.out _ (HW31.out _ hSw); have e7 := HSl.out w'; go_simp; try with_reducible rfl)
            try simp only [Act.put, List.setIfInBounds_toArray, List.set_cons_zero, List.set_cons_succ, List.getElem_toArray, List.getElem_cons_succ, List.getElem_cons_zero]
            refine wpAnyH_take (i := 23) (v := ?vv1066) rfl (by kernel_rfl) (by kernel_rfl) (by kernel_rfl) (fun _ _ _ h => h) (Or.inl ⟨by rfl, ?hy1066⟩) hHeld ?rr1066
            case hy1066 => (intro w' hSw; obtain ⟨e1, e2, e3, e4⟩ := HC31.out _ hSw; have e5 := HCA.out _ (HW31.out _ hSw); have e6 := HCB.out _ (HW31.out _ hSw); have e7 := HSl.out w'; go_simp; try with_reducible rfl)
            try simp only [Act.put, List.setIfInBounds_toArray, List.set_cons_zero, List.set_cons_succ, List.getElem_toArray, List.getElem_cons_succ, List.getElem_cons_zero]
            refine wpAnyH_take (i := 24) (v := ?vv1067) rfl (by kernel_rfl) (by kernel_rfl) (by kernel_rfl) (fun _ _ _ h => h) (Or.inl ⟨by rfl, ?hy1067⟩) hHeld ?rr1067
            case hy1067 => (intro w' hSw; obtain ⟨e1, e2, e3, e4⟩ := HC31.out _ hSw; have e5 := HCA.out _ (HW31.out _ hSw); have e6 := HCB.out _ (HW31.out _ hSw); have e7 := HSl.out w'; go_simp; try with_reducible rfl)
            try simp only [Act.put, List.setIfInBounds_toArray, List.set_cons_zero, List.set_cons_succ, List.getElem_toArray, List.getElem_cons_succ, List.getElem_cons_zero]
            refine wpAnyH_take (i := 25) (v := ?vv1068) rfl (by kernel_rfl) (by kernel_rfl) (by kernel_rfl) (fun _ _ _ h => h) (Or.inl ⟨by rfl, ?hy1068⟩) hHeld ?rr1068
            case hy1068 => (intro w' hSw; obtain ⟨e1, e2, e3, e4⟩ := HC31.out _ hSw; have e5 := HCA.out _ (HW31.out _ hSw); have e6 := HCB.out _ (HW31.out _ hSw); have e7 := HSl.out w'; go_simp; try with_reducible rfl)
            try simp only [Act.put, List.setIfInBounds_toArray, List.set_cons_zero, List.set_cons_succ, List.getElem_toArray, List.getElem_cons_succ, List.getElem_cons_zero]
            refine wpAnyH_take (i := 26) (v := ?vv1069) rfl (by kernel_rfl) (by kernel_rfl) (by kernel_rfl) (fun _ _ _ h => h) (Or.inl ⟨by rfl, ?hy1069⟩) hHeld ?rr1069
            case hy1069 => (intro w' hSw; obtain ⟨e1, e2, e3, e4⟩ := HC31.out _ hSw; have e5 := HCA.out _ (HW31.out _ hSw); have e6 := HCB.out _ (HW31.out _ hSw); have e7 := HSl.out w'; go_simp; try with_reducible rfl)
            try simp only [Act.put, List.setIfInBounds_toArray, List.set_cons_zero, List.set_cons_succ, List.getElem_toArray, List.getElem_cons_succ, List.getElem_cons_zero]
            refine wpAnyH_take (i := 27) (v := ?vv1070) rfl (by kernel_rfl) (by kernel_rfl) (by kernel_rfl) (fun _ _ _ h => h) (Or.inl ⟨by rfl, ?hy1070⟩) hHeld ?rr1070
            case hy1070 => (intro w' hSw; obtain ⟨e1, e2, e3, e4⟩ := HC31.out _ hSw; have e5 := HCA.out _ (HW31.out _ hSw); have e6 := HCB.out _ (HW31.out _ hSw); have e7 := HSl.out w'; go_simp; try with_reducible rfl)
            try simp only [Act.put, List.setIfInBounds_toArray, List.set_cons_zero, List.set_cons_succ, List.getElem_toArray, List.getElem_cons_succ, List.getElem_cons_zero]
            refine wpAnyH_take (i := 28) (v := ?vv1071) rfl (by kernel_rfl) (by kernel_rfl) (by kernel_rfl) (fun _ _ _ h => h) (Or.inl ⟨by rfl, ?hy1071⟩) hHeld ?rr1071
            case hy1071 => (intro w' hSw; obtain ⟨e1, e2, e3, e4⟩ := HC31.out _ hSw; have e5 := HCA.out _ (HW31.out _ hSw); have e6 := HCB.out _ (HW31.out _ hSw); have e7 := HSl.out w'; go_simp; try with_reducible rfl)
            try simp only [Act.put, List.setIfInBounds_toArray, List.set_cons_zero, List.set_cons_succ, List.getElem_toArray, List.getElem_cons_succ, List.getElem_cons_zero]
            refine wpAnyH_take (i := 29) (v := ?vv1072) rfl (by kernel_rfl) (by kernel_rfl) (by kernel_rfl) (fun _ _ _ h => h) (Or.inl ⟨by rfl, ?hy1072⟩) hHeld ?rr1072
            case hy1072 => (intro w' hSw; obtain ⟨e1, e2, e3, e4⟩ := HC31.out _ hSw; have e5 := HCA.out _ (HW31.out _ hSw); have e6 := HCB.out _ (HW31.out _ hSw); have e7 := HSl.out w'; go_simp; try with_reducible rfl)
            try simp only [Act.put, List.setIfInBounds_toArray, List.set_cons_zero, List.set_cons_succ, List.getElem_toArray, List.getElem_cons_succ, List.getElem_cons_zero]
            refine wpAnyH_take (i := 30) (v := ?vv1073) rfl (by kernel_rfl) (by kernel_rfl) (by kernel_rfl) (fun _ _ _ h => h) (Or.inl ⟨by rfl, ?hy1073⟩) hHeld ?rr1073
            case hy1073 => (intro w' hSw; obtain ⟨e1, e2, e3, e4⟩ := HC31.out _ hSw; have e5 := HCA.out _ (HW31.out _ hSw); have e6 := HCB.out _ (HW31.out _ hSw); have e7 := HSl.out w'; go_simp; try with_reducible rfl)
            try simp only [Act.put, List.setIfInBounds_toArray, List.set_cons_zero, List.set_cons_succ, List.getElem_toArray, List.getElem_cons_succ, List.getElem_cons_zero]
            refine wpAnyH_take (i := 31) (v := ?vv1074) rfl (by kernel_rfl) (by kernel_rfl) (by kernel_rfl) (fun _ _ _ h => h) (Or.inl ⟨by rfl, ?hy1074⟩) hHeld ?rr1074
            case hy1074 => (intro w' hSw; obtain ⟨e1, e2, e3, e4⟩ := HC31.out _ hSw; have e5 := HCA.out _ (HW31.out _ hSw); have e6 := HCB.out _ (HW31.out _ hSw); have e7 := HSl.out w'; go_simp; try with_reducible rfl)
            try simp only [Act.put, List.setIfInBounds_toArray, List.set_cons_zero, List.set_cons_succ, List.getElem_toArray, List.getElem_cons_succ, List.getElem_cons_zero]
            refine wpAnyH_take (i := 32) (v := ?vv1075) rfl (by kernel_rfl) (by kernel_rfl) (by kernel_rfl) (fun _ _ _ h => h) (Or.inl ⟨by rfl, ?hy1075⟩) hHeld ?rr1075
            case hy1075 => (intro w' hSw; obtain ⟨e1, e2, e3, e4⟩ := HC31.out _ hSw; have e5 := HCA.out _ (HW31.out _ hSw); have e6 := HCB.out _ (HW31.out _ hSw); have e7 := HSl.out w'; go_simp; try with_reducible rfl)
            try simp only [Act.put, List.setIfInBounds_toArray, List.set_cons_zero, List.set_cons_succ, List.getElem_toArray, List.getElem_cons_succ, List.getElem_cons_zero]
            refine wpAnyH_take (i := 33) (v := ?vv1076) rfl (by kernel_rfl) (by kernel_rfl) (by kernel_rfl) (fun _ _ _ h => h) (Or.inl ⟨by rfl, ?hy1076⟩) hHeld ?rr1076
            case hy1076 => (intro w' hSw; obtain ⟨e1, e2, e3, e4⟩ := HC31.out _ hSw; have e5 := HCA.out _ (HW31.out _ hSw); have e6 := HCB.out _ (HW31.out _ hSw); have e7 := HSl.out w'; go_simp; try with_reducible rfl)
            try simp only [Act.put, List.setIfInBounds_toArray, List.set_cons_zero, List.set_cons_succ, List.getElem_toArray, List.getElem_cons_succ, List.getElem_cons_zero]
            refine wpAnyH_take (i := 34) (v := .bool false) rfl (by kernel_rfl) (by kernel_rfl) (by kernel_rfl) (fun _ _ _ h => h) (Or.inl ⟨by rfl, ?hy1077⟩) hHeld ?rr1077
            case hy1077 => (intro w' hSw; obtain ⟨e1, e2, e3, e4⟩ := HC31.out _ hSw; have e5 := HCA.out _ (HW31.out _ hSw); have e6 := HCB.out _ (HW31.out _ hSw); have e7 := HSl.out w'; go_simp; try with_reducible rfl)
            try simp only [Act.put, List.setIfInBounds_toArray, List.set_cons_zero, List.set_cons_succ, List.getElem_toArray, List.getElem_cons_succ, List.getElem_cons_zero]
            refine wpAnyH_take (i := 35) (v := .bool false) rfl (by kernel_rfl) (by kernel_rfl) (by kernel_rfl) (fun _ _ _ h => h) (Or.inl ⟨by rfl, ?hy1078⟩) hHeld ?rr1078
            case hy1078 => (intro w' hSw; obtain ⟨e1, e2, e3, e4⟩ := HC31.out _ hSw; have e5 := HCA.out _ (HW31.out _ hSw); have e6 := HCB.out _ (HW31.out _ hSw); have e7 := HSl.out w'; go_simp; try with_reducible rfl)
            try simp only [Act.put, List.setIfInBounds_toArray, List.set_cons_zero, List.set_cons_succ, List.getElem_toArray, List.getElem_cons_succ, List.getElem_cons_zero]
            refine wpAnyH_done (by kernel_rfl) ?_ _
            clear hHeld
            go_wp2
            go_roundw
            case rel => exact ⟨k + 1, t + 1, by omega, by omega, by go_num, by go_num, Lib.hid (by rw [HNext.out]), Lib.hid (((HBr.out.alloc HBr.out.size _).drew.alloc (by have := HBr.out.size; simp; omega) _).drew)⟩
            case measure => simp [intOf]; omega
        · obtain rfl : k = N := by omega
          have HTe : Hid (t = M) := Lib.hid (by rw [HT.out, HMm.out, HNn.out, List.take_length])
          have htm := HTe.out
          subst htm
          go_wp2
          go_ret
          exact ⟨rfl, hBw.out⟩
end Go.Proofs.Ytobgiialecgpnaa
