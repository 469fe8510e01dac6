/- Walks of package plan: times, keys, decimals, ranks, jitters. -/
import Derived.Test.YtnikhhbnbeljeaaGreatDoorPlnB
import Derived.Test.YtnikhhbnbeljeaaGreatDoorCvc
import Derived.Test.YtnikhhbnbeljeaaGreatDoorWirA
import Derived.Test.YtnikhhbnbeljeaaGreatDoorMixC
import Derived.Test.YtnikhhbnbeljeaaGreatDoorShelf
import Derived.Lib.ItoaLen
import Derived.Lib.AppendIntMem
import Derived.Lib.SmallJoins
import Derived.Deep.RegionHeld3
set_option linter.unusedSimpArgs false
set_option linter.unusedVariables false
namespace Go.Proofs.YtnikhhbnbeljeaaGreatDoor.PL
open Go.ChangeShapes Go.WideShapes Go.ChangeAt Go.RowKit Go.Base Go.Lab Go.Civ Go.Wire

def Pow (w : World) : Prop := Lib.TabIs Tryz.prog w "internal/strconv.uint64pow10" .u64 Lib.pow10Tab
theorem Pow.later {w w' : World} (h : Pow w) (hb : Below w.heap.size w w') : Pow w' := (Lib.tabBelow_of_tabIs h) w' hb
/-- The tables. -/
structure Tb (w : World) : Prop where
  sc : ScTab w
  len : Tab w
  pow : Pow w
theorem Tb.later {w w' : World} (h : Tb w) (hb : Below w.heap.size w w') : Tb w' := ⟨h.sc.later hb, h.len.later hb, h.pow.later hb⟩
theorem below_grow (w : World) (n : Nat) (os : Array Obj) : Below w.heap.size w (Go.Sort.grow (w.drewN n) os) := by
  refine ⟨rfl, rfl, rfl, by simp [Go.Sort.grow], fun k hk => ?_⟩
  unfold Go.Sort.grow
  simp only
  rw [Array.getElem?_append_left (show k < (w.drewN n).heap.size from hk)]
  rfl
def itoT (n : Int) : Bytes := Lib.itoa n
theorem itoa_any (n : Int) (h : I64 n) (w : World) (hP : Pow w) :
    Calls Tryz.prog 86 #[.int .i64 n] w fun e w' => e = .returned (.string ⟨(itoT n).toArray⟩) ∧ Below w.heap.size w w' :=
  (Tryz.strconv_Itoa n h.1 h.2 w hP).mono fun e w' ⟨he, k, os, hw⟩ => ⟨he, by rw [hw]; exact below_grow _ _ _⟩
theorem isTime_any (t : Int) (w : World) (hT : Tab w) :
    Calls Tryz.prog 138 #[.int .i64 t] w fun e w' => e = .returned (.bool (timeB t)) ∧ Below w.heap.size w w' := by
  by_cases h : -62135596800 ≤ t ∧ t ≤ 253402300799
  · have HB : Hid (timeB t = true) := Lib.hid (decide_eq_true h)
    rw [HB.out]
    obtain ⟨n, y, k, s, hat⟩ := at_of t h.1 h.2
    have HO := Lib.hid (fun w hw => of_at t n y k s w hw hat)
    have HT := Lib.hid hT
    clear hat h hT HB
    go_enter Tryz.func138, Tryz.ntmps138
    go_wp2_with (go_at_call 192; refine (HO.out _ HT.out).mono ?_; rintro e w1 ⟨rfl, hb⟩; have HB1 := Lib.hid hb; clear hb)
    go_ret
    exact ⟨rfl, by have := HB1.out; have z := this.size; exact (this.trans (Below.mono (by go_grown) z))⟩
  · have HB : Hid (timeB t = false) := Lib.hid (decide_eq_false h)
    rw [HB.out]
    have HO := Lib.hid (fun w => of_no t w (by omega))
    clear h hT HB
    go_enter Tryz.func138, Tryz.ntmps138
    go_wp2_with (go_at_call 192; refine (HO.out _).mono ?_; rintro e w1 ⟨rfl, hb⟩; have HB1 := Lib.hid hb; clear hb)
    go_ret
    exact ⟨rfl, by have := HB1.out; have z := this.size; exact (this.trans (Below.mono (by go_grown) z))⟩
theorem fl_occ {t : Int} (h : timeB t = true) : (fl t 60 == t) = decide (t.tmod 60 = 0) := by
  have ht := of_decide_eq_true h
  unfold fl
  rw [if_neg (by omega), if_neg (by omega)]
  rw [Bool.eq_iff_iff, beq_iff_eq, decide_eq_true_eq, Int.tmod_eq_emod]
  split <;> omega
theorem isMoment_any (t : Int) (w : World) (hT : Tab w) (hI : I64 t) :
    Calls Tryz.prog 137 #[.int .i64 t] w fun e w' => e = .returned (.bool (occB t)) ∧ Below w.heap.size w w' := by
  have HA := Lib.hid (isTime_any t w hT)
  have HO : Hid (occB t = (timeB t && decide (t.tmod 60 = 0))) := Lib.hid rfl
  have HF := Lib.hid (fun h => fl_occ (t := t) h)
  rw [HO.out]
  obtain ⟨h1, h2⟩ := hI
  clear HO hT
  cases ht : timeB t
  · rw [ht] at HA
    clear HF ht
    go_enter Tryz.func137, Tryz.ntmps137
    go_wp2_with (go_at_call 138; refine HA.out.mono ?_; rintro e w1 ⟨rfl, hb⟩; have HB1 := Lib.hid hb; clear hb)
    go_ret
    exact ⟨rfl, HB1.out⟩
  · have HF2 := Lib.hid (HF.out ht)
    rw [ht] at HA
    clear HF ht
    go_enter Tryz.func137, Tryz.ntmps137
    go_wp2_with (first | (go_at_call 138; refine HA.out.mono ?_; rintro e w1 ⟨rfl, hb⟩; have HB1 := Lib.hid hb; clear hb) | (go_at_call 191; refine (floor_any _ _ _ h1 h2 (by omega)).mono ?_; rintro e w' ⟨rfl, rfl⟩))
    go_ret
    exact ⟨ret_bool (by rw [HF2.out]; rfl), HB1.out⟩
theorem mayKey_any (l : Bytes) (o h : Int) (hl : l.length ≤ maxLen) (w : World) :
    Calls Tryz.prog 139 #[.agg #[.string ⟨l.toArray⟩, .int .i64 o, .int .i64 h]] w fun e w' => e = .returned (.bool (keyB ⟨l, o, h⟩)) ∧ Below w.heap.size w w' := by
  have HJ := Lib.hid (fun w => mayJob_any w l hl)
  have HO := Lib.hid (fun w => mayOcc_any w o)
  have HH := Lib.hid (fun w => mayHost_any w h)
  have HK : Hid (keyB ⟨l, o, h⟩ = (wordB l && occB o && hostB h)) := Lib.hid rfl
  rw [HK.out]
  clear HK
  generalize wordB l = q1 at *
  generalize occB o = q2 at *
  generalize hostB h = q3 at *
  cases q1 <;> cases q2
  all_goals
    go_enter Tryz.func139, Tryz.ntmps139
    go_wp2_with (first | (go_at_call 193; refine (HJ.out _).mono ?_; rintro e w' ⟨rfl, rfl⟩) | (go_at_call 194; refine (HO.out _).mono ?_; rintro e w' ⟨rfl, rfl⟩) | (go_at_call 195; refine (HH.out _).mono ?_; rintro e w' ⟨rfl, rfl⟩))
    go_ret
    exact ⟨rfl, below_alloc _ _⟩
end Go.Proofs.YtnikhhbnbeljeaaGreatDoor.PL
