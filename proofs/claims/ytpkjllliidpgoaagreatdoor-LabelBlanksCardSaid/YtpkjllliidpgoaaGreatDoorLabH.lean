/- Walks of package label: whether labels match clauses. -/
import Derived.Test.YtpkjllliidpgoaaGreatDoorLabG
set_option linter.unusedSimpArgs false
set_option linter.unusedVariables false
namespace Go.Proofs.YtpkjllliidpgoaaGreatDoor
open Go.ChangeShapes Go.WideShapes Go.ChangeAt Go.RowKit Go.Base Go.Lab

/-- The clauses of a slice. -/
def Cls (w : World) (p : Option Addr) (l : List Cl) : Prop := ∀ (i : Nat) (h : i < l.length), ∃ b o, p = some ⟨b, o, none⟩ ∧
  w.cell? ⟨b, o + i * 3, none⟩ = some (.int .i64 l[i].kind) ∧ w.cell? ⟨b, o + i * 3 + 1, none⟩ = some (strV l[i].key) ∧ w.cell? ⟨b, o + i * 3 + 2, none⟩ = some (.slice l[i].la l[i].vals.length l[i].lc) ∧ l[i].Fit w
theorem Cls.later {w w' : World} {p : Option Addr} {l : List Cl} (h : Cls w p l) (hb : Below w.heap.size w w') : Cls w' p l := fun i hi => by
  obtain ⟨b, o, e, c0, c1, c2, f⟩ := h i hi
  exact ⟨b, o, e, cell_later hb c0, cell_later hb c1, cell_later hb c2, f.later hb⟩
def mClause (l : List Lb) (c : Cl) : Bool := mOne l c.kind c.key c.vals
def mAll (l : List Lb) (cs : List Cl) : Bool := cs.all (mClause l)
theorem take_memC {l : List Cl} {k : Nat} (hk : k < l.length) {p : Cl → Prop} (h : ∀ x ∈ l.take k, p x) (h2 : p l[k]) : ∀ x ∈ l.take (k + 1), p x := by
  intro x hx
  rw [List.take_succ_eq_append_getElem hk, List.mem_append, List.mem_singleton] at hx
  rcases hx with hx | rfl
  · exact h x hx
  · exact h2
def CfPost (r : Bool) (w : World) (e : Ending) (w' : World) : Prop := ∃ i : Int, e = .returned (.int .i64 i) ∧ decide (0 ≤ i) = !r ∧ Below w.heap.size w w'
set_option maxHeartbeats 4000000 in
theorem indexFunc_any (A B : Option Addr) (cs : List Cl) (l : List Lb) (c d : Nat) (w : World) (hC : Cls w A cs) (hL : Labs w B l) (hm : cs.length ≤ maxLen) (hl : l.length ≤ maxLen) :
    Calls Tryz.prog 59 #[.slice A cs.length c, .func (.func 40) #[.slice B l.length d] #[]] w (CfPost (mAll l cs) w) := by
  have HC := Lib.hid hC
  have HR := Lib.hid (fun (V : World) (h : Below w.heap.size w V) (x : Cl) (hx : x.Fit V) => refuses_any B l d x V (hL.later h) hl hx)
  unfold maxLen at hm
  have hm' : (cs.length : Int) ≤ 9223372036854775807 := by omega
  have HM : Hid (∀ b, mAll l cs = b → mAll l cs = b) := Lib.hid (fun _ h => h)
  generalize hr : mAll l cs = r
  have HRR := Lib.hid hr
  clear hC hL hm hr HM
  go_enter Tryz.func59, Tryz.ntmps59
  go_wp2
  go_loopw [5, 8] (fun _ i wr => ∃ k : Nat, k ≤ cs.length ∧ i = .int .i64 (k : Int) ∧ Hid (∀ x ∈ cs.take k, mClause l x = true) ∧ Hid (Below w.heap.size w wr)) (fun _ i _ => cs.length - (intOf i).toNat)
  case atStart => exact ⟨0, Nat.zero_le _, rfl, Lib.hid (by simp), Lib.hid (Below.refl _ _)⟩
  case round =>
    obtain ⟨k, hk, rfl, HF, HB⟩ := hrel
    by_cases hlt : k < cs.length
    · have hlt' : (k : Int) < (cs.length : Int) := by omega
      have hk0 : (0 : Int) ≤ (k : Int) := by omega
      obtain ⟨b, o, rfl, c0, c1, c2, hf⟩ := (HC.out.later HB.out) k hlt
      have HT := Lib.hid (take_memC (p := fun x => mClause l x = true) hlt HF.out)
      have HG : Hid (mClause l cs[k] = false → r = false) := Lib.hid (fun h => by rw [← HRR.out]; exact List.all_eq_false.2 ⟨cs[k], List.getElem_mem _, by rw [h]; decide⟩)
      have HRk := Lib.hid (HR.out _ HB.out cs[k] hf)
      have HMC : Hid (mClause l cs[k] = mOne l cs[k].kind cs[k].key cs[k].vals) := Lib.hid rfl
      rw [← HMC.out] at HRk
      clear hf HMC
      generalize hmc : mClause l cs[k] = q at *
      clear hmc
      generalize cs[k] = x at *
      obtain ⟨kind, key, la, vals, lc⟩ := x
      simp only at c0 c1 c2
      cases q
      · have HV : Hid (r = false) := Lib.hid (HG.out (by first | rfl | trivial))
        go_wp2_with (go_at_call 40; refine HRk.out.mono ?_; rintro e w2 ⟨rfl, hb⟩; have HB2 := Lib.hid (HB.out.trans (hb.mono HB.out.size)); clear hb)
        go_ret
        exact ⟨k, rfl, by rw [HV.out]; simp, HB2.out⟩
      · have HT2 := Lib.hid (HT.out (by first | rfl | trivial))
        go_wp2_with (go_at_call 40; refine HRk.out.mono ?_; rintro e w2 ⟨rfl, hb⟩; have HB2 := Lib.hid (HB.out.trans (hb.mono HB.out.size)); clear hb)
        go_roundw
        case rel => exact ⟨k + 1, by omega, by go_num, HT2, HB2⟩
        case measure => simp [intOf]; omega
    · obtain rfl : k = cs.length := by omega
      have HV : Hid (r = true) := Lib.hid (by rw [← HRR.out]; exact List.all_eq_true.2 (fun x hx => HF.out x (by rw [List.take_length]; exact hx)))
      go_wp2
      go_ret
      exact ⟨-1, rfl, by rw [HV.out]; rfl, HB.out⟩
set_option maxHeartbeats 1000000 in
theorem matches_any (A B : Option Addr) (cs : List Cl) (l : List Lb) (c d : Nat) (w : World) (hC : Cls w A cs) (hL : Labs w B l) (hm : cs.length ≤ maxLen) (hl : l.length ≤ maxLen) :
    Calls Tryz.prog 22 #[.slice A cs.length c, .slice B l.length d] w fun e w' => e = .returned (.bool (mAll l cs)) ∧ Below w.heap.size w w' := by
  have hmf : ∀ (fn : Fn) (first cap : Array Value) (w : World), (Instr.makeFunc fn first cap).run Tryz.prog w = .ok (.func fn first cap) w := fun _ _ _ _ => rfl
  have HI := Lib.hid (indexFunc_any A B cs l c d w hC hL hm hl)
  generalize mAll l cs = r at *
  clear hC hL
  have HCF : Hid (Calls Tryz.prog 39 #[.slice A cs.length c, .func (.func 40) #[.slice B l.length d] #[]] w fun e w' => e = .returned (.bool (!r)) ∧ Below w.heap.size w w') := Lib.hid (by
    go_enter Tryz.func39, Tryz.ntmps39
    go_wp2_with (go_at_call 59; refine HI.out.mono ?_; rintro e w1 ⟨i, rfl, hi, hb⟩; have HII := Lib.hid hi; have HB := Lib.hid hb; clear hi hb)
    go_ret
    exact ⟨ret_bool HII.out, HB.out⟩)
  go_enter Tryz.func22, Tryz.ntmps22
  go_wp2_with (go_at_call 39; refine HCF.out.mono ?_; rintro e w1 ⟨rfl, hb⟩; have HB := Lib.hid hb; clear hb)
  go_ret
  exact ⟨by simp, HB.out⟩
end Go.Proofs.YtpkjllliidpgoaaGreatDoor
