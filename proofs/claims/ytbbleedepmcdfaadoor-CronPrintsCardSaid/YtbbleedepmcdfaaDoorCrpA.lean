/- Walk of the document's answer: the fields of a text. -/
import Derived.Test.YtbbleedepmcdfaaDoorCroY
set_option linter.unusedSimpArgs false
set_option linter.unusedVariables false
namespace Go.Proofs.YtbbleedepmcdfaaDoor
open Go.ChangeShapes Go.WideShapes Go.ChangeAt Go.RowKit Go.Base Go.Cro Go.Civ

/-- The fields, a byte at a time: what has come of the field at hand stands in 'now'. -/
def fldFrom : Bytes → Bytes → List Bytes
  | [], now => if now = [] then [] else [now]
  | c :: l, now => if blankB c then (if now = [] then fldFrom l [] else now :: fldFrom l []) else fldFrom l (now ++ [c])
theorem fldFrom_split : ∀ (l now : Bytes), fldFrom l now = (match splitB blankB l with
    | [] => [now]
    | x :: r => (now ++ x) :: r).filter (· ≠ [])
  | [], now => by
    simp only [fldFrom, splitB, List.append_nil]
    by_cases h : now = []
    · simp [h]
    · rw [if_neg h]; simp [h]
  | c :: l, now => by
    simp only [fldFrom, splitB]
    by_cases hc : blankB c = true
    · rw [if_pos hc, if_pos hc]
      simp only [List.append_nil]
      have ih := fldFrom_split l []
      cases hs : splitB blankB l with
      | nil => exact absurd hs (splitB_ne _ _)
      | cons x r =>
        rw [hs] at ih
        simp only [List.nil_append] at ih
        rw [ih]
        by_cases h : now = []
        · rw [if_pos h, h]; rfl
        · rw [if_neg h]; rw [show List.filter (fun x => decide (x ≠ [])) (now :: x :: r) = now :: List.filter (fun x => decide (x ≠ [])) (x :: r) from by rw [List.filter_cons, if_pos (by simpa using h)]]
    · rw [if_neg hc, if_neg hc]
      have ih := fldFrom_split l (now ++ [c])
      cases hs : splitB blankB l with
      | nil => exact absurd hs (splitB_ne _ _)
      | cons x r =>
        rw [hs] at ih
        simp only at ih ⊢
        rw [ih]
        simp
theorem fldFrom_fields (l : Bytes) : fldFrom l [] = fieldsB l := by
  have h := fldFrom_split l []
  unfold fieldsB
  cases hs : splitB blankB l with
  | nil => exact absurd hs (splitB_ne _ _)
  | cons x r => rw [hs] at h; simpa using h
theorem fldFrom_len : ∀ (l now : Bytes), (fldFrom l now).length ≤ l.length + 1
  | [], now => by simp only [fldFrom]; split <;> simp
  | c :: l, now => by
    simp only [fldFrom]
    split
    · split
      · have := fldFrom_len l []; simp only [List.length_cons]; omega
      · have := fldFrom_len l []; simp only [List.length_cons]; omega
    · have := fldFrom_len l (now ++ [c]); simp only [List.length_cons]; omega

theorem bytes_one (l : Bytes) (k : Nat) (h : k < l.length) : (⟨l.toArray⟩ : ByteArray).extract k (k + 1) = ⟨[l[k]].toArray⟩ := by
  apply ByteArray.ext
  rw [ByteArray.data_extract]
  apply Array.ext'
  simp only [Array.toList_extract, List.extract_eq_take_drop, Nat.add_sub_cancel_left]
  rw [List.drop_eq_getElem_cons h]
  rfl
theorem bytes_at (l : Bytes) (k : Nat) (h : k < l.length) (h' : k < (⟨l.toArray⟩ : ByteArray).size) : (⟨l.toArray⟩ : ByteArray)[k]'h' = l[k] := rfl
theorem str_row {W : World} {a : Addr} {x : Bytes} (hW : W.cell? a = some (.string ⟨x.toArray⟩)) : ∀ (j : Nat) (u : Value), ([.string ⟨x.toArray⟩] : List Value)[j]? = some u → W.cell? (a.add j) = some u := by
  intro j u hj
  match j, hj with
  | 0, hj => simp at hj; subst hj; rw [show a.add 0 = a by simp [Addr.add]]; exact hW

set_option maxHeartbeats 3200000 in
set_option maxRecDepth 100000 in
/-- The document's fields of a text: they lie in a row of the call's own. -/
theorem refFields_any (l : Bytes) (hl : l.length ≤ 1000000) (w : World) :
    Calls Tryd.prog 17 #[.string ⟨l.toArray⟩] w fun e w' => (∃ v, e = .returned v ∧ w'.ownsRow w.heap.size 9 1 v (fieldsB l).length ((fieldsB l).map fun x => Value.string ⟨x.toArray⟩)) ∧ Below w.heap.size w w' := by
  obtain ⟨i0, hinfo, hz0, hz1, hz2⟩ := info_parts (P := Tryd.prog) (e := 9) (z := .string ⟨#[]⟩) (size := 1) (bytes := 16) (by kernel_rfl)
  have hl9 : (l.length : Int) ≤ 1000000 := by omega
  go_enter Tryd.func17, Tryd.ntmps17
  go_wp2_with fail
  go_loopw [3, 4, 5] (fun v s i wr => ∃ (k : Nat) (xs : List Bytes) (now : Bytes), k ≤ l.length ∧ i = .int .i64 k ∧ s = .string ⟨now.toArray⟩ ∧ Hid (wr.ownsRow w.heap.size 9 1 v xs.length (xs.map fun x => Value.string ⟨x.toArray⟩)) ∧ Hid (xs ++ fldFrom (l.drop k) now = fieldsB l) ∧ Hid (Below w.heap.size w wr) ∧ xs.length ≤ k ∧ now.length ≤ k) (fun _ _ i _ => l.length - (intOf i).toNat)
  case atStart => exact ⟨0, [], [], Nat.zero_le _, rfl, rfl, Lib.hid (World.ownsRow_nil _ _ _ _), Lib.hid (by rw [List.drop_zero]; exact fldFrom_fields l), Lib.hid (Below.refl _ _), Nat.le_refl _, Nat.le_refl _⟩
  case round =>
    obtain ⟨k, xs, now, hk, rfl, rfl, HO, HX, HB, hxk, hnk⟩ := hrel
    by_cases hlt : k < l.length
    · have hlt' : (k : Int) < (l.length : Int) := by omega
      have hd : l.drop k = l[k] :: l.drop (k + 1) := List.drop_eq_getElem_cons hlt
      have hx := HX.out
      rw [hd] at hx
      simp only [fldFrom] at hx
      have hsz : k < (⟨l.toArray⟩ : ByteArray).size := hlt
      have hat : (⟨l.toArray⟩ : ByteArray)[k]'hsz = l[k] := bytes_at l k hlt hsz
      have hex := bytes_one l k hlt
      generalize l[k] = c at hx hat hex
      have HEX := Lib.hid hex
      clear hd hex
      by_cases hbl : blankB c = true
      · rw [if_pos hbl] at hx
        have hc : ((c.toNat : Int) == 32) = true ∨ (((c.toNat : Int) == 32) = false ∧ ((c.toNat : Int) == 9) = true) := by
          unfold blankB at hbl
          simp only [Bool.or_eq_true, beq_iff_eq] at hbl
          rcases hbl with rfl | rfl
          · left; rfl
          · right; exact ⟨rfl, rfl⟩
        by_cases hnow : now = []
        · rw [if_pos hnow] at hx
          subst hnow
          have HX2 := Lib.hid hx
          clear hx hbl
          rcases hc with hc | ⟨hc, hc2⟩
          all_goals
            go_wp2_with fail
            exact ⟨⟨k + 1, xs, [], by omega, by go_num, rfl, HO, HX2, HB, by omega, by simp⟩, by simp [intOf]; omega⟩
        · rw [if_neg hnow] at hx
          have hn1 : (now == []) = false := by simpa using hnow
          have hn2 : now.isEmpty = false := by simpa using hnow
          have HX2 : Hid ((xs ++ [now]) ++ fldFrom (l.drop (k + 1)) [] = fieldsB l) := Lib.hid (by rw [← hx]; simp)
          have hlen : (xs.map fun x => Value.string ⟨x.toArray⟩).length = xs.length := by simp
          have hzr := HB.out.size
          have HN := Lib.hid hnow
          clear hx hbl hnow
          rcases hc with hc | ⟨hc, hc2⟩
          all_goals
            go_wp2_with (first | (at_builtin; refine wpList_append_own _ rfl (.tmp 24) (.tmp 26) 33 rfl w.heap.size 9 i0 (.string ⟨#[]⟩) 1 16 Tryd.underlying33 hinfo hz0 hz1 hz2 rfl (by decide) _ _ _ rfl (HO.out.alloc _) _ 1 1 [.string ⟨now.toArray⟩] rfl rfl (str_row (by simp [go_sem])) (by intro u hu; simp at hu; subst hu; rfl) (by unfold maxLen; omega) (by omega) (by simp; omega) ?_; intro v' w8 hown' hgrow _) | go_in)
            exact ⟨⟨k + 1, xs ++ [now], [], by omega, by go_num, rfl, Lib.hid (by simpa using hown'), HX2, Lib.hid ((HB.out.alloc hzr _).grown hgrow (by simp; omega) (fun j hj => (HO.out.lt j hj).1)), by simp; omega, by simp⟩, by simp [intOf]; omega⟩
      · rw [if_neg hbl] at hx
        have hc1 : ((c.toNat : Int) == 32) = false := by
          have : c ≠ 32 := by intro h; subst h; exact hbl rfl
          simp only [beq_eq_false_iff_ne]
          intro h; apply this; apply UInt8.toNat_inj.1; exact Int.ofNat.inj h
        have hc2 : ((c.toNat : Int) == 9) = false := by
          have : c ≠ 9 := by intro h; subst h; exact hbl rfl
          simp only [beq_eq_false_iff_ne]
          intro h; apply this; apply UInt8.toNat_inj.1; exact Int.ofNat.inj h
        have HX2 := Lib.hid hx
        clear hx hbl
        go_wp2_with fail
        exact ⟨⟨k + 1, xs, now ++ [c], by omega, by go_num, by rw [HEX.out, bytes_append], HO, HX2, HB, by omega, by simp; omega⟩, by simp [intOf]; omega⟩
    · have hkl : k = l.length := by omega
      subst hkl
      have hx := HX.out
      rw [List.drop_length] at hx
      simp only [fldFrom] at hx
      by_cases hnow : now = []
      · rw [if_pos hnow, List.append_nil] at hx
        subst hnow
        subst hx
        go_wp2_with fail
        go_ret
        exact ⟨⟨_, rfl, HO.out⟩, HB.out⟩
      · rw [if_neg hnow] at hx
        have hn1 : (now == []) = false := by simpa using hnow
        have hn2 : now.isEmpty = false := by simpa using hnow
        have hlen : (xs.map fun x => Value.string ⟨x.toArray⟩).length = xs.length := by simp
        have hzr := HB.out.size
        have HX2 := Lib.hid hx
        clear hx hnow
        go_wp2_with (first | (at_builtin; refine wpList_append_own _ rfl (.tmp 37) (.tmp 39) 33 rfl w.heap.size 9 i0 (.string ⟨#[]⟩) 1 16 Tryd.underlying33 hinfo hz0 hz1 hz2 rfl (by decide) _ _ _ rfl (HO.out.alloc _) _ 1 1 [.string ⟨now.toArray⟩] rfl rfl (str_row (by simp [go_sem])) (by intro u hu; simp at hu; subst hu; rfl) (by unfold maxLen; omega) (by omega) (by simp; omega) ?_; intro v' w8 hown' hgrow _) | go_in)
        go_ret
        refine ⟨⟨v', rfl, ?_⟩, (HB.out.alloc hzr _).grown hgrow (by simp; omega) (fun j hj => (HO.out.lt j hj).1)⟩
        rw [← HX2.out]
        simpa using hown'
end Go.Proofs.YtbbleedepmcdfaaDoor
