/- Walks of package label: a list in brackets. -/
import Derived.Test.YtpkjllliidpgoaaGreatDoorLabN
set_option linter.unusedSimpArgs false
set_option linter.unusedVariables false
namespace Go.Proofs.YtpkjllliidpgoaaGreatDoor
open Go.ChangeShapes Go.WideShapes Go.ChangeAt Go.RowKit Go.Base Go.Lab

/-- The library's own variable that a search reads holds a number. -/
def VarI (w : World) : Prop := ∃ m : Int, w.cell? ⟨0, 0, none⟩ = some (.int .i64 m)
theorem VarI.later {w w' : World} (h : VarI w) (hb : Below w.heap.size w w') : VarI w' := by
  obtain ⟨m, h⟩ := h
  exact ⟨m, cell_later hb h⟩
def splitL (l : Bytes) : List Bytes := Lib.split l [44]
def innerB (l : Bytes) : Bytes := Lib.trimSuffix (Lib.trimPrefix l [40]) [41]
def opened (l : Bytes) : Bool := Lib.hasPrefix l [40]
def closed (l : Bytes) : Bool := Lib.hasSuffix (Lib.trimPrefix l [40]) [41]
def listedB (l : Bytes) : Option (List Bytes) := if opened l && closed l then some ((splitL (innerB l)).map trimS) else none
theorem splitK_len (sep : Bytes) : ∀ (k : Nat) (s : Bytes), ∀ x ∈ Lib.splitK sep 0 k s, x.length ≤ s.length
  | 0, s => by simp [Lib.splitK]
  | k + 1, s => by
    unfold Lib.splitK
    split
    · simp
    · intro x hx
      rcases List.mem_cons.1 hx with rfl | hx
      · rw [List.length_take]; omega
      · have := splitK_len sep k _ x hx
        rw [List.length_drop] at this
        omega
theorem splitL_len (l : Bytes) : ∀ x ∈ splitL l, x.length ≤ l.length := splitK_len _ _ _
theorem trimPrefix_len (l p : Bytes) : (Lib.trimPrefix l p).length ≤ l.length := by
  unfold Lib.trimPrefix; split <;> simp
theorem trimSuffix_len (l p : Bytes) : (Lib.trimSuffix l p).length ≤ l.length := by
  unfold Lib.trimSuffix; split
  · rw [List.length_take]; exact Nat.min_le_right _ _
  · exact Nat.le_refl _
theorem innerB_len (l : Bytes) : (innerB l).length ≤ l.length := Nat.le_trans (trimSuffix_len _ _) (trimPrefix_len _ _)
theorem cutPrefix_l (l p : Bytes) (w : World) : Calls Tryz.prog 55 #[strV l, strV p] w fun e w' => e = .returned (.tuple #[strV (Lib.trimPrefix l p), .bool (Lib.hasPrefix l p)]) ∧ w = w' := by
  refine (Tryz.strings_CutPrefix ⟨l.toArray⟩ ⟨p.toArray⟩ w).mono ?_
  rintro e w1 ⟨rfl, rfl⟩
  simp
theorem cutSuffix_l (l p : Bytes) (hl : l.length ≤ maxLen) (w : World) : Calls Tryz.prog 96 #[strV l, strV p] w fun e w' => e = .returned (.tuple #[strV (Lib.trimSuffix l p), .bool (Lib.hasSuffix l p)]) ∧ w = w' := by
  have := Tryz.strings_CutSuffix ⟨l.toArray⟩ ⟨p.toArray⟩ w (by unfold maxLen at hl; simpa [ByteArray.size] using hl)
  refine this.mono ?_
  rintro e w1 ⟨rfl, rfl⟩
  simp
theorem split_cells (l : Bytes) (k : Nat) : ((Lib.splitB ⟨#[44]⟩ 0 k ⟨l.toArray⟩).map Value.string).toArray = ((Lib.splitK [44] 0 k l).map strV).toArray := by
  have h := Lib.splitB_data ⟨#[44]⟩ 0 k ⟨l.toArray⟩
  simp only at h
  have h2 : Lib.splitK [44] 0 k l = (Lib.splitB ⟨#[44]⟩ 0 k ⟨l.toArray⟩).map (·.data.toList) := h.symm
  rw [h2, List.map_map]
  congr 1
theorem splitL_length (l : Bytes) : (splitL l).length = Lib.countB ⟨l.toArray⟩ ⟨#[44]⟩ + 1 := by
  have h := Lib.splitB_all ⟨#[44]⟩ (by decide) 0 _ ⟨l.toArray⟩ rfl
  have h2 := Lib.splitB_data ⟨#[44]⟩ 0 (Lib.countB ⟨l.toArray⟩ ⟨#[44]⟩) ⟨l.toArray⟩
  rw [← h, ← List.length_map (f := fun x : ByteArray => x.data.toList), h2]
  rfl
theorem splitL_few (l : Bytes) : (splitL l).length ≤ l.length + 1 := by
  rw [splitL_length]
  have := Lib.countB_le ⟨#[44]⟩ (by decide) _ ⟨l.toArray⟩ (Nat.le_refl _)
  have e : (⟨l.toArray⟩ : ByteArray).size = l.length := by simp [ByteArray.size]
  omega
theorem split_l (l : Bytes) (hl : l.length ≤ 1000000) (w : World) (hV : VarI w) :
    Calls Tryz.prog 97 #[strV l, .string ⟨#[44]⟩] w fun e w' => e = .returned (.slice (some ⟨w.heap.size, 0, none⟩) (splitL l).length (splitL l).length) ∧ w' = w.alloc (.cells ((splitL l).map strV).toArray 9) := by
  obtain ⟨m, hm⟩ := hV
  have e : (⟨l.toArray⟩ : ByteArray).size = l.length := by simp [ByteArray.size]
  have := Tryz.strings_Split ⟨l.toArray⟩ ⟨#[44]⟩ m w (by omega) hm (by decide)
  rw [split_cells, ← splitL_length] at this
  exact this
/-- The first k of some texts, trimmed, and the rest. -/
def mixL (k : Nat) (vs : List Bytes) : List Bytes := (vs.take k).map trimS ++ vs.drop k
theorem mix_at {k : Nat} {vs : List Bytes} (hk : k < vs.length) : ((mixL k vs).map strV).toArray[k]? = some (strV vs[k]) := by
  have e : mixL k vs = (vs.take k).map trimS ++ vs[k] :: vs.drop (k + 1) := by unfold mixL; rw [List.drop_eq_getElem_cons hk]
  have hl : ((vs.take k).map trimS).length = k := by simp; omega
  rw [e, List.getElem?_toArray, List.getElem?_map, List.getElem?_append_right (by omega), hl, Nat.sub_self]
  rfl
theorem mix_step {k : Nat} {vs : List Bytes} (hk : k < vs.length) : (((mixL k vs).map strV).toArray.setIfInBounds k (strV (trimS vs[k]))) = ((mixL (k + 1) vs).map strV).toArray := by
  have e : mixL k vs = (vs.take k).map trimS ++ vs[k] :: vs.drop (k + 1) := by unfold mixL; rw [List.drop_eq_getElem_cons hk]
  have e2 : mixL (k + 1) vs = (vs.take k).map trimS ++ trimS vs[k] :: vs.drop (k + 1) := by unfold mixL; rw [List.take_succ_eq_append_getElem hk]; simp only [List.map_append, List.map_cons, List.map_nil, List.append_assoc, List.singleton_append]
  have hl : (((vs.take k).map trimS).map strV).length = k := by simp; omega
  rw [e, e2, List.setIfInBounds_toArray, List.map_append, List.map_append, List.set_append_right _ _ (by omega), hl, Nat.sub_self]
  rfl
theorem mix_end (vs : List Bytes) : mixL vs.length vs = vs.map trimS := by unfold mixL; simp
theorem mix_cell {w : World} {g k : Nat} {t : TypeId} {vs : List Bytes} (h : w.heap[g]? = some (.cells ((mixL k vs).map strV).toArray t (0, 0))) (hk : k < vs.length) : w.cell? ⟨g, k, none⟩ = some (strV vs[k]) ∧ w.frozen? ⟨g, k, none⟩ = false :=
  ⟨by rw [(cells_of_heap h).1, mix_at hk], (cells_of_heap h).2 _⟩
theorem mix_strs {w : World} {g : Nat} {t : TypeId} {vs : List Bytes} (h : w.heap[g]? = some (.cells ((mixL vs.length vs).map strV).toArray t (0, 0))) (hv : ∀ x ∈ vs, x.length ≤ maxLen) : Strs w (some ⟨g, 0, none⟩) (vs.map trimS) := fun i hi => by
  rw [mix_end] at h
  have hi' : i < vs.length := by simpa using hi
  refine ⟨g, 0, rfl, ?_, ?_⟩
  · rw [(cells_of_heap h).1, Nat.zero_add, List.getElem?_toArray, List.getElem?_map, List.getElem?_eq_getElem hi]; rfl
  · rw [List.getElem_map]; exact Nat.le_trans (trimS_len _) (hv _ (List.getElem_mem _))
theorem listedB_few {l : Bytes} {vs : List Bytes} (h : listedB l = some vs) : vs.length ≤ l.length + 1 := by
  unfold listedB at h
  split at h
  · injection h with h; subst h
    rw [List.length_map]
    exact Nat.le_trans (splitL_few _) (by have := innerB_len l; omega)
  · cases h
/-- The block behind an address is one of strings. -/
def TyS (W : World) (la : Option Addr) : Prop := ∀ a, la = some a → ∃ cs fz, W.heap[a.block]? = some (.cells cs 9 fz)
theorem TyS.later {W W2 : World} {la : Option Addr} (h : TyS W la) (hb : Below W.heap.size W W2) : TyS W2 la := fun a e => by
  obtain ⟨cs, fz, hc⟩ := h a e
  exact ⟨cs, fz, (hb.block _ (heap_lt hc)).trans hc⟩
theorem TyS.other {W W2 : World} {la : Option Addr} {g : Nat} (h : TyS W la) (o : ∀ k, k ≠ g → W2.heap[k]? = W.heap[k]?) (hA : ∀ a, la = some a → a.block ≠ g) : TyS W2 la := fun a e => by
  obtain ⟨cs, fz, hc⟩ := h a e
  exact ⟨cs, fz, (o _ (hA a e)).trans hc⟩
theorem TyS.of {W : World} {g : Nat} {cs : Array Value} {fz : Nat × Nat} (h : W.heap[g]? = some (.cells cs 9 fz)) : TyS W (some ⟨g, 0, none⟩) := fun a e => by
  injection e with e; subst e; exact ⟨cs, fz, h⟩
theorem TyS.none (W : World) : TyS W none := fun a e => by cases e
def ListPost (r : Option (List Bytes)) (w : World) (e : Ending) (w' : World) : Prop :=
  (r = none → e = .returned (.tuple #[.slice none 0 0, .bool false])) ∧ (∀ vs, r = some vs → ∃ g cap, e = .returned (.tuple #[.slice (some ⟨g, 0, none⟩) vs.length cap, .bool true]) ∧ Strs w' (some ⟨g, 0, none⟩) vs ∧ vs.length ≤ cap ∧ w.heap.size ≤ g ∧ TyS w' (some ⟨g, 0, none⟩)) ∧ Below w.heap.size w w'
theorem list_none {w w' : World} {r : Option (List Bytes)} (h : r = none) (hb : Below w.heap.size w w') : ListPost r w (.returned (.tuple #[.slice none 0 0, .bool false])) w' :=
  ⟨(fun _ => rfl), (fun vs h' => by rw [h] at h'; cases h'), hb⟩
theorem list_some {w w' : World} {r : Option (List Bytes)} {g : Nat} {vs : List Bytes} (h : r = some (vs.map trimS)) (hs : Strs w' (some ⟨g, 0, none⟩) (vs.map trimS)) (hg : w.heap.size ≤ g) (ht : TyS w' (some ⟨g, 0, none⟩)) (hb : Below w.heap.size w w') : ListPost r w (.returned (.tuple #[.slice (some ⟨g, 0, none⟩) vs.length vs.length, .bool true])) w' :=
  ⟨(fun h' => by rw [h] at h'; cases h'), (fun vs' h' => by rw [h] at h'; injection h' with h'; subst h'; exact ⟨g, vs.length, by simp, hs, by simp, hg, ht⟩), hb⟩
set_option maxHeartbeats 2000000 in
set_option maxRecDepth 20000 in
theorem listed_l (l : Bytes) (hl : l.length ≤ 1000000) (w : World) (hV : VarI w) :
    Calls Tryz.prog 82 #[strV l] w (ListPost (listedB l) w) := by
  have HL : Hid (listedB l = if opened l && closed l then some ((splitL (innerB l)).map trimS) else none) := Lib.hid rfl
  have H1 : Hid (Calls Tryz.prog 55 #[strV l, strV [40]] w fun e w' => e = .returned (.tuple #[strV (Lib.trimPrefix l [40]), .bool (opened l)]) ∧ w = w') := Lib.hid (cutPrefix_l l [40] w)
  have H2 : Hid (Calls Tryz.prog 96 #[strV (Lib.trimPrefix l [40]), strV [41]] w fun e w' => e = .returned (.tuple #[strV (innerB l), .bool (closed l)]) ∧ w = w') := Lib.hid (cutSuffix_l _ [41] (Nat.le_trans (trimPrefix_len _ _) (by unfold maxLen; omega)) w)
  have H3 := Lib.hid (split_l (innerB l) (Nat.le_trans (innerB_len _) hl) w hV)
  have HX := Lib.hid (fun x hx => Nat.le_trans (splitL_len (innerB l) x hx) (Nat.le_trans (innerB_len _) hl))
  have hn : (splitL (innerB l)).length ≤ 1000001 := Nat.le_trans (splitL_few _) (by have := innerB_len l; omega)
  generalize listedB l = r at *
  generalize opened l = a at *
  generalize closed l = b at *
  generalize splitL (innerB l) = vs at *
  generalize Lib.trimPrefix l [40] = l1 at *
  generalize innerB l = l2 at *
  clear hl hV
  cases a
  · have HR : Hid (r = none) := Lib.hid (by rw [HL.out]; rfl)
    go_enter Tryz.func82, Tryz.ntmps82
    go_wp2_with (first | (go_at_call 55; refine H1.out.mono ?_; rintro e w1 ⟨rfl, rfl⟩) | (go_at_call 96; refine H2.out.mono ?_; rintro e w1 ⟨rfl, rfl⟩))
    go_ret2
    exact list_none HR.out (Below.refl _ _)
  cases b
  · have HR : Hid (r = none) := Lib.hid (by rw [HL.out]; rfl)
    go_enter Tryz.func82, Tryz.ntmps82
    go_wp2_with (first | (go_at_call 55; refine H1.out.mono ?_; rintro e w1 ⟨rfl, rfl⟩) | (go_at_call 96; refine H2.out.mono ?_; rintro e w1 ⟨rfl, rfl⟩))
    go_ret2
    exact list_none HR.out (Below.refl _ _)
  have HR : Hid (r = some (vs.map trimS)) := Lib.hid (by rw [HL.out]; rfl)
  have HH0 : Hid ((w.alloc (.cells (vs.map strV).toArray 9)).heap[w.heap.size]? = some (.cells ((mixL 0 vs).map strV).toArray 9 (0, 0))) := Lib.hid (heap_new _ _)
  have HB0 : Hid (Below w.heap.size w (w.alloc (.cells (vs.map strV).toArray 9))) := Lib.hid (below_alloc _ _)
  have hn' : (vs.length : Int) ≤ 1000001 := by omega
  clear HL hn
  go_enter Tryz.func82, Tryz.ntmps82
  go_wp2_with (first | (go_at_call 55; refine H1.out.mono ?_; rintro e w1 ⟨rfl, rfl⟩) | (go_at_call 96; refine H2.out.mono ?_; rintro e w1 ⟨rfl, rfl⟩) | (go_at_call 97; refine H3.out.mono ?_; rintro e w1 ⟨rfl, rfl⟩))
  clear H1 H2 H3
  go_loopw [8, 9, 30] (fun _ _ i wr => ∃ k : Nat, k ≤ vs.length ∧ i = .int .i64 (k : Int) ∧ Hid (wr.heap[w.heap.size]? = some (.cells ((mixL k vs).map strV).toArray 9 (0, 0))) ∧ Hid (Below w.heap.size w wr)) (fun _ _ i _ => vs.length - (intOf i).toNat)
  case atStart => exact ⟨0, Nat.zero_le _, rfl, HH0, HB0⟩
  case round =>
    obtain ⟨k, hk, rfl, HH, HB⟩ := hrel
    clear HH0 HB0
    by_cases hlt : k < vs.length
    · have hlt' : (k : Int) < (vs.length : Int) := by omega
      have hk0 : (0 : Int) ≤ (k : Int) := by omega
      obtain ⟨c0, f0⟩ := mix_cell HH.out hlt
      have HS := Lib.hid (mix_step hlt)
      have HT := Lib.hid (fun W => trim_l vs[k] (Nat.le_trans (HX.out _ (List.getElem_mem _)) (by unfold maxLen; omega)) W)
      have HM := Lib.hid (fun (W : World) (h : W.heap[w.heap.size]? = some (.cells ((mixL k vs).map strV).toArray 9 (0, 0))) => mix_cell h hlt)
      generalize trimS vs[k] = y at *
      generalize vs[k] = x at *
      clear f0
      go_wp2_with (go_at_call 36; refine (HT.out _).mono ?_; rintro e w1 ⟨rfl, hb⟩; have HH1 := Lib.hid ((hb.block _ (heap_lt HH.out)).trans HH.out); have HB1 := Lib.hid (HB.out.trans (hb.mono HB.out.size)); obtain ⟨c1, f1⟩ := HM.out _ HH1.out; clear hb c0)
      go_roundw
      case rel => exact ⟨k + 1, by omega, by go_num, Lib.hid (by rw [← HS.out]; exact heap_set HH1.out _ _), Lib.hid (HB1.out.setCell (Nat.le_refl _) _)⟩
      case measure => simp [intOf]; omega
    · obtain rfl : k = vs.length := by omega
      go_wp2
      go_ret2
      exact list_some HR.out (mix_strs HH.out (fun x hx => Nat.le_trans (HX.out x hx) (by unfold maxLen; omega))) (Nat.le_refl _) (TyS.of HH.out) HB.out
end Go.Proofs.YtpkjllliidpgoaaGreatDoor
