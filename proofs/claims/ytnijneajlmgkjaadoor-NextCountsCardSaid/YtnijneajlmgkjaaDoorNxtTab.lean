/- From a row's laid variables to the tables that next's walks read: the months' lengths, the fields' scopes, the library's places of a bit. -/
import Derived.Test.YtnijneajlmgkjaaDoorNxtW
import Derived.Test.YtnijneajlmgkjaaDoorSpecA
import Derived.Lib.LaidTab
set_option linter.unusedSimpArgs false
set_option linter.unusedVariables false
namespace Go.Proofs.YtnijneajlmgkjaaDoor
open Go.ChangeShapes Go.WideShapes Go.ChangeAt Go.RowKit Go.Base Go.Cro Go.Civ

/-- A laid variable's entry, by its name. -/
theorem laid_at {P : Program} {W : World} {n : String} {d : DataW Unit} : ∀ {l : List (String × DataW Unit)} {ps : List MemPlace}, DataW.LaidVars P W l ps → (n, d) ∈ l →
    ∃ g t cs fuel p, P.globalNamed n = some g ∧ (P.globals[g]?).map (·.type) = some t ∧ W.var? P n = some cs ∧ DataW.trod (fun _ => ()) P W 0 (fun _ => true) false fuel t cs.toList = some (d, p)
  | [], _, _, h => by cases h
  | (m, x) :: r, ps, hl, h => by
    obtain ⟨g, t, cs, fuel, p, q, hg, ht, hv, hd, hr, _⟩ := hl
    rcases List.mem_cons.1 h with e | h
    · cases e; exact ⟨g, t, cs, fuel, p, hg, ht, hv, hd⟩
    · exact laid_at hr h

theorem gTab : Tryd.prog.globalNamed "reveille/civil.lengths" = some 2 := by kernel_rfl
theorem gTabType : (Tryd.prog.globals[2]?).map (·.type) = some 76 := by kernel_rfl
theorem cellsTab : Tryd.prog.cellsOf 76 = 12 := by kernel_rfl
theorem cellsInt : Tryd.prog.cellsOf 3 = 1 := by kernel_rfl
theorem gSc : Tryd.prog.globalNamed "reveille/cron.scopes" = some 0 := by kernel_rfl
theorem gScType : (Tryd.prog.globals[0]?).map (·.type) = some 64 := by kernel_rfl
theorem cellsSc5 : Tryd.prog.cellsOf 64 = 15 := by kernel_rfl
theorem cellsSc : Tryd.prog.cellsOf 63 = 3 := by kernel_rfl

def scData (l : List (Int × Int × Int)) : DataW Unit := .agg (l.map fun x => .agg [.lit (.int .i64 x.1), .lit (.int .i64 x.2.1), .lit (.int .i64 x.2.2)])
theorem scope_cells {W : World} {fuel : Nat} {cs : List Value} {a b c : Int} {p : List MemPlace}
    (h : DataW.trod (fun _ => ()) Tryd.prog W 0 (fun _ => true) false fuel 63 cs = some ((.agg [.lit (.int .i64 a), .lit (.int .i64 b), .lit (.int .i64 c)] : DataW Unit), p)) : cs = [.int .i64 a, .int .i64 b, .int .i64 c] := by
  obtain ⟨xs, n, _, hx, hl, hlen, hall⟩ := DataW.trod_struct Tryd.underlying63 h
  rw [cellsSc] at hl
  obtain ⟨c0, c1, c2, rfl⟩ : ∃ c0 c1 c2, cs = [c0, c1, c2] := by
    rcases cs with _ | ⟨c0, _ | ⟨c1, _ | ⟨c2, _ | ⟨c3, r⟩⟩⟩⟩ <;> first | (simp at hl; done) | (exact ⟨_, _, _, rfl⟩) | (simp at hl; omega)
  have h0 := hall 0 _ rfl
  have h1 := hall 1 _ rfl
  have h2 := hall 2 _ rfl
  change DataW.trod _ _ _ _ _ _ n 3 (([c0, c1, c2].drop 0).take (Tryd.prog.cellsOf 3)) = _ at h0
  change DataW.trod _ _ _ _ _ _ n 3 (([c0, c1, c2].drop 1).take (Tryd.prog.cellsOf 3)) = _ at h1
  change DataW.trod _ _ _ _ _ _ n 3 (([c0, c1, c2].drop 2).take (Tryd.prog.cellsOf 3)) = _ at h2
  rw [cellsInt] at h0 h1 h2
  have hlen3 : xs.length = 3 := hlen
  obtain ⟨x0, x1, x2, rfl⟩ : ∃ x0 x1 x2, xs = [x0, x1, x2] := by
    match xs, hlen3 with
    | [x0, x1, x2], _ => exact ⟨_, _, _, rfl⟩
  simp only [Prod.mk.injEq, DataW.agg.injEq, List.map_cons, List.map_nil, List.cons.injEq] at hx
  obtain ⟨⟨e0, e1, e2, _⟩, _⟩ := hx
  obtain ⟨z0, q0, r0, _⟩ := DataW.trod_int Tryd.underlying3 h0
  obtain ⟨z1, q1, r1, _⟩ := DataW.trod_int Tryd.underlying3 h1
  obtain ⟨z2, q2, r2, _⟩ := DataW.trod_int Tryd.underlying3 h2
  simp at q0 q1 q2
  rw [r0] at e0; rw [r1] at e1; rw [r2] at e2
  simp at e0 e1 e2
  subst q0 q1 q2 e0 e1 e2
  rfl
theorem scopes_cells {W : World} {fuel : Nat} {cs : List Value} {l : List (Int × Int × Int)} {p : List MemPlace} (hl5 : l.length = 5)
    (h : DataW.trod (fun _ => ()) Tryd.prog W 0 (fun _ => true) false fuel 64 cs = some (scData l, p)) :
    ∀ i x, l[i]? = some x → cs[i * 3]? = some (.int .i64 x.1) ∧ cs[i * 3 + 1]? = some (.int .i64 x.2.1) ∧ cs[i * 3 + 2]? = some (.int .i64 x.2.2) := by
  cases fuel with
  | zero => simp [DataW.trod] at h
  | succ fuel =>
    simp only [DataW.trod, Tryd.underlying64, cellsSc, cellsSc5] at h
    split at h
    · rename_i hl
      obtain ⟨xs, hm, hx⟩ := Option.map_eq_some_iff.1 h
      have hxs : xs.map (·.1) = l.map fun x : Int × Int × Int => (DataW.agg [.lit (.int .i64 x.1), .lit (.int .i64 x.2.1), .lit (.int .i64 x.2.2)] : DataW Unit) := by
        have := congrArg Prod.fst hx
        simpa [scData] using this
      intro i x hi
      have hi5 : i < 5 := by have := (List.getElem?_eq_some_iff.1 hi).1; omega
      obtain ⟨b, hb, hf⟩ := Lib.mapM_at hm i i (by simp [hi5])
      have h2 : (xs.map (·.1))[i]? = some b.1 := by simp [hb]
      rw [hxs, List.getElem?_map, hi] at h2
      simp only [Option.map_some, Option.some.injEq] at h2
      have hb2 : b = (b.1, b.2) := rfl
      rw [hb2, ← h2] at hf
      have hc := scope_cells hf
      have g : ∀ j, j < 3 → cs[i * 3 + j]? = ([.int .i64 x.1, .int .i64 x.2.1, .int .i64 x.2.2] : List Value)[j]? := by
        intro j hj
        rw [← hc, List.getElem?_take_of_lt hj, List.getElem?_drop]
      exact ⟨g 0 (by decide), g 1 (by decide), g 2 (by decide)⟩
    · cases h
theorem gTz : Tryd.prog.globalNamed "math/bits.deBruijn64tab" = some 1 := by kernel_rfl
theorem gTzType : (Tryd.prog.globals[1]?).map (·.type) = some 73 := by kernel_rfl
theorem cellsTz : Tryd.prog.cellsOf 73 = 64 := by kernel_rfl
theorem cellsByte : Tryd.prog.cellsOf 5 = 1 := by kernel_rfl
theorem vars_of {W : World} {l : List (String × DataW Unit)} (h : laidMet Tryd.prog l W) (h1 : ("reveille/civil.lengths", Lib.tabData .i64 [31, 28, 31, 30, 31, 30, 31, 31, 30, 31, 30, 31]) ∈ l)
    (h0 : ("math/bits.deBruijn64tab", Lib.tabData .u8 (Lib.deBruijn64tab.map fun (n : Nat) => (n : Int))) ∈ l) (h2 : ("reveille/cron.scopes", scData [(0, 59, 59), (0, 23, 23), (1, 31, 31), (1, 12, 12), (0, 6, 7)]) ∈ l) : Vars W := by
  obtain ⟨ps, hl, _⟩ := h
  constructor
  · obtain ⟨g, t, cs, fuel, p, hg, ht, hv, hd⟩ := laid_at hl h0
    obtain rfl := Option.some.inj (gTz.symm.trans hg)
    obtain rfl := Option.some.inj (gTzType.symm.trans ht)
    have hc := Lib.cells_of_tab Tryd.underlying73 Tryd.underlying5 cellsByte cellsTz hd
    intro k hk
    rw [World.var?_cell gTz hv k, ← Array.getElem?_toList, hc]
    have hk' : k < 64 := hk
    rw [List.map_map, List.getElem?_map, List.getElem?_eq_getElem hk, List.getD_eq_getElem?_getD, List.getElem?_eq_getElem hk]
    rfl
  · obtain ⟨g, t, cs, fuel, p, hg, ht, hv, hd⟩ := laid_at hl h1
    obtain rfl := Option.some.inj (gTab.symm.trans hg)
    obtain rfl := Option.some.inj (gTabType.symm.trans ht)
    have hc := Lib.cells_of_tab Tryd.underlying76 Tryd.underlying3 cellsInt cellsTab hd
    intro k hk
    rw [World.var?_cell gTab hv k, ← Array.getElem?_toList, hc]
    rcases k with _ | _ | _ | _ | _ | _ | _ | _ | _ | _ | _ | _ | k <;> first | rfl | omega
  · obtain ⟨g, t, cs, fuel, p, hg, ht, hv, hd⟩ := laid_at hl h2
    obtain rfl := Option.some.inj (gSc.symm.trans hg)
    obtain rfl := Option.some.inj (gScType.symm.trans ht)
    have hc := scopes_cells rfl hd
    intro i hi
    rw [World.var?_cell gSc hv i, ← Array.getElem?_toList]
    have c0 := hc 0 _ rfl; have c1 := hc 1 _ rfl; have c2 := hc 2 _ rfl; have c3 := hc 3 _ rfl; have c4 := hc 4 _ rfl
    simp only [Nat.zero_mul, Nat.one_mul, Nat.zero_add, Nat.reduceMul, Nat.reduceAdd] at c0 c1 c2 c3 c4
    rcases i with _ | _ | _ | _ | _ | _ | _ | _ | _ | _ | _ | _ | _ | _ | _ | i
    · exact c0.1
    · exact c0.2.1
    · exact c0.2.2
    · exact c1.1
    · exact c1.2.1
    · exact c1.2.2
    · exact c2.1
    · exact c2.2.1
    · exact c2.2.2
    · exact c3.1
    · exact c3.2.1
    · exact c3.2.2
    · exact c4.1
    · exact c4.2.1
    · exact c4.2.2
    · omega
end Go.Proofs.YtnijneajlmgkjaaDoor
