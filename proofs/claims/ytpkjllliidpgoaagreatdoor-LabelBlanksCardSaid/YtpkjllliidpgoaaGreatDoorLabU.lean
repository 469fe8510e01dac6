/- Walk of the law's own look at package label: lives. -/
import Derived.Test.YtpkjllliidpgoaaGreatDoorLabT
import Derived.Test.YtpkjllliidpgoaaGreatDoorLabH
import Derived.Test.YtpkjllliidpgoaaGreatDoorLabJ
set_option linter.unusedSimpArgs false
set_option linter.unusedVariables false
namespace Go.Proofs.YtpkjllliidpgoaaGreatDoor
open Go.ChangeShapes Go.WideShapes Go.ChangeAt Go.RowKit Go.Base Go.Lab

def tA : Bytes := [111, 115, 61, 108, 105, 110, 117, 120, 44, 32, 122, 111, 110, 101, 32, 105, 110, 32, 40, 97, 44, 32, 98, 41, 44, 32, 33, 103, 112, 117]
def tB : Bytes := [97, 61, 98, 44, 99, 32, 105, 110, 32, 100]
def csA : List PC := [(1, [111, 115], [[108, 105, 110, 117, 120]]), (1, [122, 111, 110, 101], [[97], [98]]), (4, [103, 112, 117], [])]
def lsA : List Lb := [⟨[111, 115], [108, 105, 110, 117, 120]⟩, ⟨[122, 111, 110, 101], [98]⟩]
theorem parse_tA : parseB tA = .ok csA := by kernel_rfl
theorem parse_tB : parseB tB = .error (40, 1) := by kernel_rfl
def mAllP (l : List Lb) (ps : List PC) : Bool := ps.all fun p => mOne l p.1 p.2.1 p.2.2
theorem mAll_pc (l : List Lb) (cs : List Cl) : mAll l cs = mAllP l (cs.map pcOf) := by
  unfold mAll mAllP; rw [List.all_map]; rfl
def rightP (p : PC) : Bool := rightB ⟨p.1, p.2.1, none, p.2.2, 0⟩
def printP (ps : List PC) : Bytes := if decide (ps.length ≤ 16) && ps.all rightP then Lib.join (ps.map fun p => clT p.1 p.2.1 p.2.2) [44] else []
theorem printB_pc (cs : List Cl) : printB cs = printP (cs.map pcOf) := by
  unfold printB printP; rw [List.all_map, List.map_map, List.length_map]; rfl
theorem mayA : mayB lsA = true := by kernel_rfl
theorem mA1 : mAllP lsA csA = true := by kernel_rfl
theorem mA2 : mAllP (lsA.take 1) csA = false := by kernel_rfl
theorem pA : printP csA = [111, 115, 61, 108, 105, 110, 117, 120, 44, 122, 111, 110, 101, 32, 105, 110, 32, 40, 97, 44, 98, 41, 44, 33, 103, 112, 117] := by kernel_rfl
theorem wA : wordB [97] = true := by kernel_rfl
theorem flat_at (cs : List Cl) : ∀ (i : Nat) (h : i < cs.length) (j : Nat), j < 3 → (cs.flatMap clC)[i * 3 + j]? = (clC cs[i])[j]? := by
  induction cs with
  | nil => intro i h; cases h
  | cons c cs ih =>
    intro i h j hj
    have h3 : (clC c).length = 3 := rfl
    cases i with
    | zero => rw [List.flatMap_cons, Nat.zero_mul, Nat.zero_add, List.getElem?_append_left (by omega)]; rfl
    | succ i =>
      rw [List.flatMap_cons, List.getElem?_append_right (by omega), h3, show (i + 1) * 3 + j - 3 = i * 3 + j by omega, ih i (by simpa using h) j hj]
      rfl
theorem CRows.cls {W : World} {base n : Nat} {ps : List PC} {v : Value} (h : CRows W base ps v) (hn : ps.length = n) : ∃ A cap, ∃ l : List Cl, v = .slice A n cap ∧ l.length = n ∧ l.map pcOf = ps ∧ Cls W A l ∧ n ≤ cap := by
  obtain ⟨cs, h1, h2, h3⟩ := h
  have hcl : cs.length = n := by rw [← hn, ← h1, List.length_map]
  rw [hn] at h2
  rcases h2.2 with ⟨h4, h5⟩ | ⟨g, cap, cur, e1, _, e3, e4, _, e6, e7⟩
  · subst h5
    exact ⟨_, 0, cs, h4, hcl, h1, (fun i hi => by omega), Nat.le_refl _⟩
  · refine ⟨_, cap, cs, e1, hcl, h1, fun i hi => ⟨g, 0, rfl, ?_, ?_, ?_, (h3 _ (List.getElem_mem _)).1⟩, e4⟩
    all_goals
      have key : ∀ j, j < 3 → W.cell? ⟨g, i * 3 + j, none⟩ = (clC cs[i])[j]? := fun j hj => by
        rw [(cells_of_heap e3).1, ← flat_at cs i hi j hj, ← e7, List.getElem?_take, if_pos (by omega), Array.getElem?_toList]
    · rw [Nat.zero_add]; exact key 0 (by omega)
    · rw [Nat.zero_add]; exact key 1 (by omega)
    · rw [Nat.zero_add]; exact key 2 (by omega)
abbrev lsC : Array Value := #[.string ⟨#[111, 115]⟩, .string ⟨#[108, 105, 110, 117, 120]⟩, .string ⟨#[122, 111, 110, 101]⟩, .string ⟨#[98]⟩]
theorem labs_lsA (W : World) : Labs (W.alloc (.cells lsC 46)) (some ⟨W.heap.size, 0, none⟩) lsA := by
  have h := (cells_of_heap (heap_new W (.cells lsC 46))).1
  have hk : ∀ x ∈ lsA, x.key.length ≤ maxLen ∧ x.val.length ≤ maxLen := by
    intro x hx
    simp only [lsA, List.mem_cons, List.not_mem_nil, or_false] at hx
    rcases hx with rfl | rfl <;> (unfold maxLen; decide)
  intro i hi
  have hi2 : i < 2 := hi
  rcases (by omega : i = 0 ∨ i = 1) with rfl | rfl
  · exact ⟨_, _, rfl, by rw [h]; rfl, by rw [h]; rfl, (hk _ (List.getElem_mem hi)).1, (hk _ (List.getElem_mem hi)).2⟩
  · exact ⟨_, _, rfl, by rw [h]; rfl, by rw [h]; rfl, (hk _ (List.getElem_mem hi)).1, (hk _ (List.getElem_mem hi)).2⟩
theorem labs_take {W : World} {A : Option Addr} {l : List Lb} (h : Labs W A l) (n : Nat) : Labs W A (l.take n) := fun i hi => by
  have hi2 : i < l.length := by rw [List.length_take] at hi; omega
  obtain ⟨b, o, e, c0, c1, k0, k1⟩ := h i hi2
  rw [List.getElem_take]
  exact ⟨b, o, e, c0, c1, k0, k1⟩
set_option maxHeartbeats 4000000 in
set_option maxRecDepth 20000 in
theorem lives_any (w : World) (hV : VarI w) : Calls Tryz.prog 12 #[] w fun e w' => e = .returned (.bool true) ∧ Below w.heap.size w w' := by
  have HA := Lib.hid (parse_l tA (by unfold maxLen; decide) w hV)
  rw [parse_tA] at HA
  have HBp := Lib.hid (fun W (hb : Below w.heap.size w W) => parse_l tB (by unfold maxLen; decide) W (hV.later hb))
  rw [parse_tB] at HBp
  have HM1 : Hid (∀ V A cap B d, ∀ l : List Cl, l.length = 3 → l.map pcOf = csA → Cls V A l → Labs V B lsA → Calls Tryz.prog 22 #[.slice A 3 cap, .slice B 2 d] V fun e w' => e = .returned (.bool true) ∧ Below V.heap.size V w') := Lib.hid (fun V A cap B d l h3 hl hc hL => by
    have := matches_any A B l lsA cap d V hc hL (by rw [h3]; unfold maxLen; decide) (by unfold maxLen; decide)
    rw [mAll_pc, hl, mA1, h3] at this; exact this)
  have HM2 : Hid (∀ V A cap B d, ∀ l : List Cl, l.length = 3 → l.map pcOf = csA → Cls V A l → Labs V B (lsA.take 1) → Calls Tryz.prog 22 #[.slice A 3 cap, .slice B 1 d] V fun e w' => e = .returned (.bool false) ∧ Below V.heap.size V w') := Lib.hid (fun V A cap B d l h3 hl hc hL => by
    have := matches_any A B l (lsA.take 1) cap d V hc hL (by rw [h3]; unfold maxLen; decide) (by unfold maxLen; decide)
    rw [mAll_pc, hl, mA2, h3] at this; exact this)
  have HPr : Hid (∀ V A cap, ∀ l : List Cl, l.length = 3 → l.map pcOf = csA → Cls V A l → Calls Tryz.prog 18 #[.slice A 3 cap] V fun e w' => e = .returned (.string ⟨#[111, 115, 61, 108, 105, 110, 117, 120, 44, 122, 111, 110, 101, 32, 105, 110, 32, 40, 97, 44, 98, 41, 44, 33, 103, 112, 117]⟩) ∧ Below V.heap.size V w') := Lib.hid (fun V A cap l h3 hl hc => by
    have := print_any A l cap V hc (by rw [h3]; unfold maxLen; decide)
    rw [printB_pc, hl, pA, h3] at this; exact this)
  have HMy : Hid (∀ V B d, Labs V B lsA → Calls Tryz.prog 14 #[.slice B 2 d] V fun e w' => e = .returned (.bool true) ∧ Below V.heap.size V w') := Lib.hid (fun V B d hL => by
    have := labelMay_any B lsA d V hL (by decide)
    rw [mayA] at this; exact this)
  have HW : Hid (∀ V, Calls Tryz.prog 16 #[.string ⟨#[97]⟩] V fun e w' => e = .returned (.bool true) ∧ V = w') := Lib.hid (fun V => by
    have := word_l [97] (by unfold maxLen; decide) V
    rw [wA] at this; exact this)
  clear hV
  go_enter Tryz.func12, Tryz.ntmps12
  go_wp2_with (first
    | (go_at_call 20; refine HA.out.mono ?_; rintro e W1 ⟨_, h, hb⟩; clear HA; obtain ⟨v, rfl, hr⟩ := h _ rfl; obtain ⟨A, cap, l, rfl, h3, hl, hc, _⟩ := hr.cls (n := 3) rfl; have HB1 := Lib.hid hb; have HCl := Lib.hid hc; have HL3 := Lib.hid h3; have HLm := Lib.hid hl; clear h hb hr h3 hl hc)
    | (go_at_call 20; refine (HBp.out _ HB1.out).mono ?_; rintro e W2 ⟨h, _, hb⟩; obtain rfl := h _ _ rfl; have HB2 := Lib.hid (hb.alloc hb.size (.cells lsC 46)); have HLs := Lib.hid (labs_lsA W2); have HC2 := Lib.hid (HCl.out.later HB2.out); have HBw := Lib.hid (HB1.out.trans (HB2.out.mono HB1.out.size)); clear h hb)
    | (go_at_call 22; refine (HM1.out _ A cap _ _ l HL3.out HLm.out HC2.out HLs.out).mono ?_; rintro e W4 ⟨rfl, hb⟩; have HC4 := Lib.hid (HC2.out.later hb); have HLs4 := Lib.hid (HLs.out.later hb); have HBw4 := Lib.hid (HBw.out.trans (hb.mono HBw.out.size)); clear hb HM1)
    | (go_at_call 22; refine (HM2.out _ A cap _ _ l HL3.out HLm.out HC4.out (labs_take HLs4.out 1)).mono ?_; rintro e W5 ⟨rfl, hb⟩; have HC5 := Lib.hid (HC4.out.later hb); have HLs5 := Lib.hid (HLs4.out.later hb); have HBw5 := Lib.hid (HBw4.out.trans (hb.mono HBw4.out.size)); clear hb)
    | (go_at_call 18; refine (HPr.out _ A cap l HL3.out HLm.out HC5.out).mono ?_; rintro e W6 ⟨rfl, hb⟩; have HLs6 := Lib.hid (HLs5.out.later hb); have HBw6 := Lib.hid (HBw5.out.trans (hb.mono HBw5.out.size)); clear hb)
    | (go_at_call 14; refine (HMy.out _ _ _ HLs6.out).mono ?_; rintro e W7 ⟨rfl, hb⟩; have HBw7 := Lib.hid (HBw6.out.trans (hb.mono HBw6.out.size)); clear hb)
    | (go_at_call 16; refine (HW.out _).mono ?_; rintro e W8 ⟨rfl, rfl⟩))
  go_ret
  exact ⟨rfl, HBw7.out⟩
end Go.Proofs.YtpkjllliidpgoaaGreatDoor
