/- The law CronBlanks: blanks ahead, behind and between change nothing. -/
import Derived.Test.YtgalpngbhacpkaaDoorCrpN
set_option linter.unusedSimpArgs false
set_option linter.unusedVariables false
namespace Go.Proofs.YtgalpngbhacpkaaDoor
open Go.ChangeShapes Go.WideShapes Go.ChangeAt Go.RowKit Go.Base Go.Cro Go.Civ

theorem fields_cut (a r : Bytes) (c : UInt8) (hc : blankB c = true) : fieldsB (a ++ c :: r) = fieldsB a ++ fieldsB r := by
  unfold fieldsB; rw [splitB_mid blankB c r hc a, List.filter_append]
theorem fields_nil : fieldsB [] = [] := rfl
theorem fields_lead : ∀ (b r : Bytes), (∀ c ∈ b, blankB c = true) → fieldsB (b ++ r) = fieldsB r
  | [], r, _ => rfl
  | c :: b, r, h => by
    have h1 := fields_cut [] (b ++ r) c (h c (by simp))
    rw [fields_nil, List.nil_append, List.nil_append] at h1
    rw [List.cons_append, h1]
    exact fields_lead b r (fun d hd => h d (by simp [hd]))
theorem fields_one (x : Bytes) (h0 : x ≠ []) (h : ∀ c ∈ x, blankB c = false) : fieldsB x = [x] := by
  unfold fieldsB; rw [splitB_none blankB x h]; simp [h0]
/-- A field more, behind blanks. -/
theorem fields_more (s b x : Bytes) (hb : b ≠ []) (hbl : ∀ c ∈ b, blankB c = true) (h0 : x ≠ []) (h : ∀ c ∈ x, blankB c = false) : fieldsB (s ++ b ++ x) = fieldsB s ++ [x] := by
  match b, hb, hbl with
  | c :: b, _, hbl =>
    rw [List.append_assoc, List.cons_append, fields_cut s (b ++ x) c (hbl c (by simp)), fields_lead b x (fun d hd => hbl d (by simp [hd])), fields_one x h0 h]

theorem parse_same (l s : Bytes) (hl : l.length ≤ 256) (hs : s.length ≤ 256) (h : fieldsB s = fieldsB l) : ∃ (b0 b1 b2 b3 b4 : Int) (t2 t4 : Bool) (e p : Int),
    (∀ w, ScTab w → Calls Tryd.prog 10 #[.string ⟨l.toArray⟩] w fun z w' => z = .returned (.tuple #[.agg #[.int .u64 b0, .int .u64 b1, .int .u64 b2, .int .u64 b3, .int .u64 b4, .bool t2, .bool t4], .int .i64 e, .int .i64 p]) ∧ Below w.heap.size w w') ∧
    (∀ w, ScTab w → Calls Tryd.prog 10 #[.string ⟨s.toArray⟩] w fun z w' => z = .returned (.tuple #[.agg #[.int .u64 b0, .int .u64 b1, .int .u64 b2, .int .u64 b3, .int .u64 b4, .bool t2, .bool t4], .int .i64 e, .int .i64 p]) ∧ Below w.heap.size w w') := by
  have hA := fun w h => parse_any l (by unfold maxLen; omega) w h
  have hB := fun w h => parse_any s (by unfold maxLen; omega) w h
  have hp : parseB s = parseB l := by unfold parseB; rw [if_neg (by omega), if_neg (by omega), h]
  cases hl : parseB l with
  | error x =>
    obtain ⟨e, p⟩ := x
    exact ⟨_, _, _, _, _, _, _, e, p, fun w hs => (hA w hs).mono fun z w' hq => ⟨hq.1.1 e p hl, hq.2⟩, fun w hs => (hB w hs).mono fun z w' hq => ⟨hq.1.1 e p (hp.trans hl), hq.2⟩⟩
  | ok ms => exact ⟨_, _, _, _, _, _, _, 0, 0, fun w hs => (hA w hs).mono fun z w' hq => ⟨hq.1.2 ms hl, hq.2⟩, fun w hs => (hB w hs).mono fun z w' hq => ⟨hq.1.2 ms (hp.trans hl), hq.2⟩⟩
/-- What is to be told of the blanks: each can be read. -/
def IntRow (w : World) (a : Option Addr) (n : Nat) : Prop := ∀ j : Nat, j < n → ∃ ad q, a = some ad ∧ (ad.add j).block < w.heap.size ∧ w.cell? (ad.add j) = some (.int .i64 q)
theorem IntRow.later {w w' : World} {a : Option Addr} {n : Nat} (h : IntRow w a n) (hb : Below w.heap.size w w') : IntRow w' a n := fun j hj => by
  obtain ⟨ad, q, h1, h2, h3⟩ := h j hj
  exact ⟨ad, q, h1, Nat.lt_of_lt_of_le h2 hb.size, (hb.cell h2).trans h3⟩

theorem open_introw {H : Type} {enc : TypeId × Value → H} {P : Program} {t e : TypeId} (ht : P.underlying t = some (.slice e)) (he : P.underlying e = some (.int .i64)) (hc : P.cellsOf e = 1) {W : World} {b0 : Nat} {v : Value} {d0 : DataW H} {p : List MemPlace}
    (hv : Value.okWide P W .any b0 t v) (h0 : DataW.Trod enc P W 0 (fun _ => true) true t v d0 p) : ∃ a n cap, v = .slice a n cap ∧ IntRow W a n := by
  obtain ⟨a0, len, cap, rfl⟩ := okWide_slice ht hv
  obtain ⟨fuel, hf⟩ := h0
  rcases open_ints ht he hc hf with ⟨hcs, hx⟩ | ⟨a, len', cap', zs, hcs, _, hl, hm, hz, hx, hcell, hwz⟩
  · simp [Value.cells] at hcs
    obtain ⟨rfl, rfl, rfl⟩ := hcs
    exact ⟨none, 0, 0, rfl, fun j hj => absurd hj (Nat.not_lt_zero _)⟩
  · simp [Value.cells] at hcs
    obtain ⟨rfl, rfl, rfl⟩ := hcs
    simp only [if_true] at hz
    exact ⟨some a, len, cap, rfl, fun j hj => ⟨a, _, rfl, World.block_lt_of_cell? _ _ (hcell j (by omega)), hcell j (by omega)⟩⟩

set_option maxHeartbeats 3200000 in
set_option maxRecDepth 100000 in
/-- The document's fields of a text: they lie in a row of the call's own. -/
theorem refFields_big (l : Bytes) (hl : l.length ≤ 1048576) (w : World) :
    Calls Tryd.prog 17 #[.string ⟨l.toArray⟩] w fun e w' => (∃ v, e = .returned v ∧ w'.ownsRow w.heap.size 9 1 v (fieldsB l).length ((fieldsB l).map fun x => Value.string ⟨x.toArray⟩)) ∧ Below w.heap.size w w' := by
  obtain ⟨i0, hinfo, hz0, hz1, hz2⟩ := info_parts (P := Tryd.prog) (e := 9) (z := .string ⟨#[]⟩) (size := 1) (bytes := 16) (by kernel_rfl)
  have hl9 : (l.length : Int) ≤ 1048576 := by omega
  go_enter Tryd.func17, Tryd.ntmps17
  go_wp2_with fail
  go_loopw [3, 4, 5] (fun v s i wr => ∃ (k : Nat) (xs : List Bytes) (now : Bytes), k ≤ l.length ∧ i = .int .i64 k ∧ s = .string ⟨now.toArray⟩ ∧ Hid (wr.ownsRow w.heap.size 9 1 v xs.length (xs.map fun x => Value.string ⟨x.toArray⟩)) ∧ Hid (xs ++ fldFrom (l.drop k) now = fieldsB l) ∧ Hid (Below w.heap.size w wr) ∧ xs.length ≤ k ∧ now.length ≤ k) (fun _ _ i _ => l.length - (intOf i).toNat)
  case atStart => exact ⟨0, [], [], Nat.zero_le _, rfl, rfl, Lib.hid (World.ownsRow_nil _ _ _ _), Lib.hid (by rw [List.drop_zero]; exact fldFrom_fields l), Lib.hid (Below.refl _ _), Nat.le_refl _, Nat.le_refl _⟩
  case round =>
    obtain ⟨k, xs, now, hk, rfl, rfl, HO, HX, HB, hxk, hnk⟩ := hrel
    by_cases hlt : k < l.length
    · have hlt' : (k : Int) < (l.length : Int) := by omega
      have hd : l.drop k = l[k] :: l.drop (k + 1) := List.drop_eq_getElem_cons hlt
      have hx := HX.out
      rw [hd] at hx
      simp only [fldFrom] at hx
      have hsz : k < (⟨l.toArray⟩ : ByteArray).size := hlt
      have hat : (⟨l.toArray⟩ : ByteArray)[k]'hsz = l[k] := bytes_at l k hlt hsz
      have hex := bytes_one l k hlt
      generalize l[k] = c at hx hat hex
      have HEX := Lib.hid hex
      clear hd hex
      by_cases hbl : blankB c = true
      · rw [if_pos hbl] at hx
        have hc : ((c.toNat : Int) == 32) = true ∨ (((c.toNat : Int) == 32) = false ∧ ((c.toNat : Int) == 9) = true) := by
          unfold blankB at hbl
          simp only [Bool.or_eq_true, beq_iff_eq] at hbl
          rcases hbl with rfl | rfl
          · left; rfl
          · right; exact ⟨rfl, rfl⟩
        by_cases hnow : now = []
        · rw [if_pos hnow] at hx
          subst hnow
          have HX2 := Lib.hid hx
          clear hx hbl
          rcases hc with hc | ⟨hc, hc2⟩
          all_goals
            go_wp2_with fail
            exact ⟨⟨k + 1, xs, [], by omega, by go_num, rfl, HO, HX2, HB, by omega, by simp⟩, by simp [intOf]; omega⟩
        · rw [if_neg hnow] at hx
          have hn1 : (now == []) = false := by simpa using hnow
          have hn2 : now.isEmpty = false := by simpa using hnow
          have HX2 : Hid ((xs ++ [now]) ++ fldFrom (l.drop (k + 1)) [] = fieldsB l) := Lib.hid (by rw [← hx]; simp)
          have hlen : (xs.map fun x => Value.string ⟨x.toArray⟩).length = xs.length := by simp
          have hzr := HB.out.size
          have HN := Lib.hid hnow
          clear hx hbl hnow
          rcases hc with hc | ⟨hc, hc2⟩
          all_goals
            go_wp2_with (first | (at_builtin; refine wpList_append_own _ rfl (.tmp 24) (.tmp 26) 33 rfl w.heap.size 9 i0 (.string ⟨#[]⟩) 1 16 Tryd.underlying33 hinfo hz0 hz1 hz2 rfl (by decide) _ _ _ rfl (HO.out.alloc _) _ 1 1 [.string ⟨now.toArray⟩] rfl rfl (str_row (by simp [go_sem])) (by intro u hu; simp at hu; subst hu; rfl) (by unfold maxLen; omega) (by omega) (by simp; omega) ?_; intro v' w8 hown' hgrow _) | go_in)
            exact ⟨⟨k + 1, xs ++ [now], [], by omega, by go_num, rfl, Lib.hid (by simpa using hown'), HX2, Lib.hid ((HB.out.alloc hzr _).grown hgrow (by simp; omega) (fun j hj => (HO.out.lt j hj).1)), by simp; omega, by simp⟩, by simp [intOf]; omega⟩
      · rw [if_neg hbl] at hx
        have hc1 : ((c.toNat : Int) == 32) = false := by
          have : c ≠ 32 := by intro h; subst h; exact hbl rfl
          simp only [beq_eq_false_iff_ne]
          intro h; apply this; apply UInt8.toNat_inj.1; exact Int.ofNat.inj h
        have hc2 : ((c.toNat : Int) == 9) = false := by
          have : c ≠ 9 := by intro h; subst h; exact hbl rfl
          simp only [beq_eq_false_iff_ne]
          intro h; apply this; apply UInt8.toNat_inj.1; exact Int.ofNat.inj h
        have HX2 := Lib.hid hx
        clear hx hbl
        go_wp2_with fail
        exact ⟨⟨k + 1, xs, now ++ [c], by omega, by go_num, by rw [HEX.out, bytes_append], HO, HX2, HB, by omega, by simp; omega⟩, by simp [intOf]; omega⟩
    · have hkl : k = l.length := by omega
      subst hkl
      have hx := HX.out
      rw [List.drop_length] at hx
      simp only [fldFrom] at hx
      by_cases hnow : now = []
      · rw [if_pos hnow, List.append_nil] at hx
        subst hnow
        subst hx
        go_wp2_with fail
        go_ret
        exact ⟨⟨_, rfl, HO.out⟩, HB.out⟩
      · rw [if_neg hnow] at hx
        have hn1 : (now == []) = false := by simpa using hnow
        have hn2 : now.isEmpty = false := by simpa using hnow
        have hlen : (xs.map fun x => Value.string ⟨x.toArray⟩).length = xs.length := by simp
        have hzr := HB.out.size
        have HX2 := Lib.hid hx
        clear hx hnow
        go_wp2_with (first | (at_builtin; refine wpList_append_own _ rfl (.tmp 37) (.tmp 39) 33 rfl w.heap.size 9 i0 (.string ⟨#[]⟩) 1 16 Tryd.underlying33 hinfo hz0 hz1 hz2 rfl (by decide) _ _ _ rfl (HO.out.alloc _) _ 1 1 [.string ⟨now.toArray⟩] rfl rfl (str_row (by simp [go_sem])) (by intro u hu; simp at hu; subst hu; rfl) (by unfold maxLen; omega) (by omega) (by simp; omega) ?_; intro v' w8 hown' hgrow _) | go_in)
        go_ret
        refine ⟨⟨v', rfl, ?_⟩, (HB.out.alloc hzr _).grown hgrow (by simp; omega) (fun j hj => (HO.out.lt j hj).1)⟩
        rw [← HX2.out]
        simpa using hown'
set_option maxRecDepth 100000 in
set_option maxHeartbeats 8000000 in
theorem law_blanks (l : Bytes) (hl : l.length ≤ 1048576) (a : Option Addr) (n : Nat) (c : Nat) (w : World) (hR : IntRow w a n) (hT : Tabs w) :
    Calls Tryd.prog 5 #[.string ⟨l.toArray⟩, .slice a n c] w fun e w' => e = .returned (.bool true) ∧ Below w.heap.size w w' := by
  have HF := Lib.hid (fun w => refFields_big l hl w)
  have HM : Hid (∀ x ∈ fieldsB l, x ≠ [] ∧ (∀ b ∈ x, blankB b = false) ∧ x.length ≤ l.length) := Lib.hid (fun x hx => fields_mem hx)
  have HR := Lib.hid hR
  have HT := Lib.hid hT
  have HL := Lib.hid (fun w h => lives_any w h)
  clear hR hT
  have HFl : Hid ((fieldsB l).length ≤ l.length + 1) := Lib.hid (by rw [← fldFrom_fields]; exact fldFrom_len l [])
  generalize hF : fieldsB l = F at HF HM HFl
  go_enter Tryd.func5, Tryd.ntmps5
  go_wp2_with (first | (go_at_call 17; refine (HF.out _).mono ?_; rintro e W2 ⟨⟨v, rfl, ho⟩, hb⟩; obtain ⟨fa, fc, rfl, hrow⟩ := owns_strs ho; have HO := Lib.hid hrow; have HB := Lib.hid hb; clear ho hb hrow))
  have HB2 := HB.out
  have hcl : ∀ x : Bytes, x.length ≤ l.length → x.length ≤ 1048576 := fun x h => Nat.le_trans h hl
  go_loopw [6, 7] (fun s i wr => ∃ (sb : Bytes) (k : Nat), s = .string ⟨sb.toArray⟩ ∧ i = .int .i64 k ∧ k ≤ F.length ∧ Hid (fieldsB sb = F.take k) ∧ sb.length ≤ 1048700 * k ∧ Hid (Below W2.heap.size W2 wr)) (fun _ i _ => F.length - (intOf i).toNat)
  case atStart => exact ⟨[], 0, rfl, rfl, Nat.zero_le _, Lib.hid (by simp; rfl), by simp, Lib.hid (Below.refl _ _)⟩
  case round =>
    obtain ⟨sb, k, rfl, rfl, hk, HS, hsb, HW⟩ := hrel
    have hFl := HFl.out
    by_cases hlt : k < F.length
    · have hlt' : (k : Int) < (F.length : Int) := by omega
      obtain ⟨x, hx⟩ : ∃ x, F[k]? = some x := ⟨_, List.getElem?_eq_getElem hlt⟩
      have HX := Lib.hid hx
      obtain ⟨gr, hfa, hgr, hcell⟩ := HO.out k x hx
      subst hfa
      obtain ⟨hx0, hxb, hxl⟩ := HM.out x (List.mem_of_getElem? hx)
      have hxl' := hcl x hxl
      have HXB := Lib.hid (And.intro hx0 hxb)
      clear hx hx0 hxb hxl
      have HCR := Lib.hid (And.intro hgr hcell)
      clear hcell hgr
      by_cases hkn : k < n
      · have hkn' : (k : Int) < (n : Int) := by omega
        obtain ⟨ad, q, rfl, had, hq⟩ := HR.out k hkn
        have hqr : wr.cell? (ad.add k) = some (.int .i64 q) := (((HB2.trans (HW.out.mono HB2.size)).cell had).trans hq)
        clear hq
        by_cases hq1 : 1 < q
        · by_cases hq2 : q < 20
          · go_wp2
            go_loopw [6, 9] (fun s kk wr => ∃ b : Bytes, s = .string ⟨(sb ++ b).toArray⟩ ∧ kk = .int .i64 (b.length : Nat) ∧ Hid (∀ c ∈ b, blankB c = true) ∧ (b.length : Int) ≤ q ∧ Hid (Below W2.heap.size W2 wr)) (fun _ kk _ => (100 - intOf kk).toNat)
            case atStart => exact ⟨[], by simp, rfl, Lib.hid (by simp), by first | (simp; done) | (simp; omega), HW⟩
            case round =>
              obtain ⟨b, rfl, rfl, HBl, hbN, HWi⟩ := hrel
              have hsz : (sb ++ b).length ≤ 1048700 * k + 20 := by rw [List.length_append]; omega
              by_cases hj : (b.length : Int) < q
              · cases hev : ((b.length : Int) % 2 == 0)
                · go_wp2
                  rw [bytes_append]
                  exact ⟨⟨b ++ [9], by simp, by first | rfl | (simp; done) | go_num, Lib.hid (by intro c hc; rcases List.mem_append.1 hc with hc | hc; exact HBl.out c hc; simp at hc; subst hc; rfl), by first | (simp; done) | (simp; omega), HWi⟩, by first | (simp [intOf]; done) | (simp [intOf]; omega)⟩
                · go_wp2
                  rw [bytes_append]
                  exact ⟨⟨b ++ [32], by simp, by first | rfl | (simp; done) | go_num, Lib.hid (by intro c hc; rcases List.mem_append.1 hc with hc | hc; exact HBl.out c hc; simp at hc; subst hc; rfl), by first | (simp; done) | (simp; omega), HWi⟩, by first | (simp [intOf]; done) | (simp [intOf]; omega)⟩
              · have hbe : b ≠ [] := by intro h; subst h; first | (simp at hj; done) | (simp at hj; omega)
                have hcr : wr.cell? ⟨gr, k, none⟩ = some (.string ⟨x.toArray⟩) := (HWi.out.cell HCR.out.1).trans HCR.out.2
                have HFN : Hid (fieldsB ((sb ++ b) ++ x) = F.take (k + 1)) := Lib.hid (by rw [fields_more sb b x hbe HBl.out HXB.out.1 HXB.out.2, HS.out, List.take_add_one, HX.out]; rfl)
                have hlx : ((sb ++ b) ++ x).length ≤ 1048700 * (k + 1) := by rw [List.length_append]; omega
                go_wp2
                rw [bytes_append]
                exact ⟨⟨(sb ++ b) ++ x, k + 1, rfl, by go_num, by omega, HFN, hlx, HWi⟩, by first | (simp [intOf]; done) | (simp [intOf]; omega)⟩
          · go_wp2
            go_loopw [6, 9] (fun s kk wr => ∃ b : Bytes, s = .string ⟨(sb ++ b).toArray⟩ ∧ kk = .int .i64 (b.length : Nat) ∧ Hid (∀ c ∈ b, blankB c = true) ∧ (b.length : Int) ≤ 1 ∧ Hid (Below W2.heap.size W2 wr)) (fun _ kk _ => (100 - intOf kk).toNat)
            case atStart => exact ⟨[], by simp, rfl, Lib.hid (by simp), by first | (simp; done) | (simp; omega), HW⟩
            case round =>
              obtain ⟨b, rfl, rfl, HBl, hbN, HWi⟩ := hrel
              have hsz : (sb ++ b).length ≤ 1048700 * k + 20 := by rw [List.length_append]; omega
              by_cases hj : (b.length : Int) < 1
              · cases hev : ((b.length : Int) % 2 == 0)
                · go_wp2
                  rw [bytes_append]
                  exact ⟨⟨b ++ [9], by simp, by first | rfl | (simp; done) | go_num, Lib.hid (by intro c hc; rcases List.mem_append.1 hc with hc | hc; exact HBl.out c hc; simp at hc; subst hc; rfl), by first | (simp; done) | (simp; omega), HWi⟩, by first | (simp [intOf]; done) | (simp [intOf]; omega)⟩
                · go_wp2
                  rw [bytes_append]
                  exact ⟨⟨b ++ [32], by simp, by first | rfl | (simp; done) | go_num, Lib.hid (by intro c hc; rcases List.mem_append.1 hc with hc | hc; exact HBl.out c hc; simp at hc; subst hc; rfl), by first | (simp; done) | (simp; omega), HWi⟩, by first | (simp [intOf]; done) | (simp [intOf]; omega)⟩
              · have hbe : b ≠ [] := by intro h; subst h; first | (simp at hj; done) | (simp at hj; omega)
                have hcr : wr.cell? ⟨gr, k, none⟩ = some (.string ⟨x.toArray⟩) := (HWi.out.cell HCR.out.1).trans HCR.out.2
                have HFN : Hid (fieldsB ((sb ++ b) ++ x) = F.take (k + 1)) := Lib.hid (by rw [fields_more sb b x hbe HBl.out HXB.out.1 HXB.out.2, HS.out, List.take_add_one, HX.out]; rfl)
                have hlx : ((sb ++ b) ++ x).length ≤ 1048700 * (k + 1) := by rw [List.length_append]; omega
                go_wp2
                rw [bytes_append]
                exact ⟨⟨(sb ++ b) ++ x, k + 1, rfl, by go_num, by omega, HFN, hlx, HWi⟩, by first | (simp [intOf]; done) | (simp [intOf]; omega)⟩
        · go_wp2
          go_loopw [6, 9] (fun s kk wr => ∃ b : Bytes, s = .string ⟨(sb ++ b).toArray⟩ ∧ kk = .int .i64 (b.length : Nat) ∧ Hid (∀ c ∈ b, blankB c = true) ∧ (b.length : Int) ≤ 1 ∧ Hid (Below W2.heap.size W2 wr)) (fun _ kk _ => (100 - intOf kk).toNat)
          case atStart => exact ⟨[], by simp, rfl, Lib.hid (by simp), by first | (simp; done) | (simp; omega), HW⟩
          case round =>
            obtain ⟨b, rfl, rfl, HBl, hbN, HWi⟩ := hrel
            have hsz : (sb ++ b).length ≤ 1048700 * k + 20 := by rw [List.length_append]; omega
            by_cases hj : (b.length : Int) < 1
            · cases hev : ((b.length : Int) % 2 == 0)
              · go_wp2
                rw [bytes_append]
                exact ⟨⟨b ++ [9], by simp, by first | rfl | (simp; done) | go_num, Lib.hid (by intro c hc; rcases List.mem_append.1 hc with hc | hc; exact HBl.out c hc; simp at hc; subst hc; rfl), by first | (simp; done) | (simp; omega), HWi⟩, by first | (simp [intOf]; done) | (simp [intOf]; omega)⟩
              · go_wp2
                rw [bytes_append]
                exact ⟨⟨b ++ [32], by simp, by first | rfl | (simp; done) | go_num, Lib.hid (by intro c hc; rcases List.mem_append.1 hc with hc | hc; exact HBl.out c hc; simp at hc; subst hc; rfl), by first | (simp; done) | (simp; omega), HWi⟩, by first | (simp [intOf]; done) | (simp [intOf]; omega)⟩
            · have hbe : b ≠ [] := by intro h; subst h; first | (simp at hj; done) | (simp at hj; omega)
              have hcr : wr.cell? ⟨gr, k, none⟩ = some (.string ⟨x.toArray⟩) := (HWi.out.cell HCR.out.1).trans HCR.out.2
              have HFN : Hid (fieldsB ((sb ++ b) ++ x) = F.take (k + 1)) := Lib.hid (by rw [fields_more sb b x hbe HBl.out HXB.out.1 HXB.out.2, HS.out, List.take_add_one, HX.out]; rfl)
              have hlx : ((sb ++ b) ++ x).length ≤ 1048700 * (k + 1) := by rw [List.length_append]; omega
              go_wp2
              rw [bytes_append]
              exact ⟨⟨(sb ++ b) ++ x, k + 1, rfl, by go_num, by omega, HFN, hlx, HWi⟩, by first | (simp [intOf]; done) | (simp [intOf]; omega)⟩
      · have hkn' : ¬ (k : Int) < (n : Int) := by omega
        go_wp2
        go_loopw [6, 9] (fun s kk wr => ∃ b : Bytes, s = .string ⟨(sb ++ b).toArray⟩ ∧ kk = .int .i64 (b.length : Nat) ∧ Hid (∀ c ∈ b, blankB c = true) ∧ (b.length : Int) ≤ 1 ∧ Hid (Below W2.heap.size W2 wr)) (fun _ kk _ => (100 - intOf kk).toNat)
        case atStart => exact ⟨[], by simp, rfl, Lib.hid (by simp), by first | (simp; done) | (simp; omega), HW⟩
        case round =>
          obtain ⟨b, rfl, rfl, HBl, hbN, HWi⟩ := hrel
          have hsz : (sb ++ b).length ≤ 1048700 * k + 20 := by rw [List.length_append]; omega
          by_cases hj : (b.length : Int) < 1
          · cases hev : ((b.length : Int) % 2 == 0)
            · go_wp2
              rw [bytes_append]
              exact ⟨⟨b ++ [9], by simp, by first | rfl | (simp; done) | go_num, Lib.hid (by intro c hc; rcases List.mem_append.1 hc with hc | hc; exact HBl.out c hc; simp at hc; subst hc; rfl), by first | (simp; done) | (simp; omega), HWi⟩, by first | (simp [intOf]; done) | (simp [intOf]; omega)⟩
            · go_wp2
              rw [bytes_append]
              exact ⟨⟨b ++ [32], by simp, by first | rfl | (simp; done) | go_num, Lib.hid (by intro c hc; rcases List.mem_append.1 hc with hc | hc; exact HBl.out c hc; simp at hc; subst hc; rfl), by first | (simp; done) | (simp; omega), HWi⟩, by first | (simp [intOf]; done) | (simp [intOf]; omega)⟩
          · have hbe : b ≠ [] := by intro h; subst h; first | (simp at hj; done) | (simp at hj; omega)
            have hcr : wr.cell? ⟨gr, k, none⟩ = some (.string ⟨x.toArray⟩) := (HWi.out.cell HCR.out.1).trans HCR.out.2
            have HFN : Hid (fieldsB ((sb ++ b) ++ x) = F.take (k + 1)) := Lib.hid (by rw [fields_more sb b x hbe HBl.out HXB.out.1 HXB.out.2, HS.out, List.take_add_one, HX.out]; rfl)
            have hlx : ((sb ++ b) ++ x).length ≤ 1048700 * (k + 1) := by rw [List.length_append]; omega
            go_wp2
            rw [bytes_append]
            exact ⟨⟨(sb ++ b) ++ x, k + 1, rfl, by go_num, by omega, HFN, hlx, HWi⟩, by first | (simp [intOf]; done) | (simp [intOf]; omega)⟩
    · have hke : k = F.length := by omega
      have HS2 : Hid (fieldsB sb = F) := Lib.hid (by rw [HS.out, hke, List.take_length])
      have B1 := Lib.hid (HB2.trans (HW.out.mono HB2.size))
      have hkn : ¬ (k : Int) < (F.length : Int) := by omega
      by_cases h1 : 256 < sb.length
      · have h1' : (256 : Int) < (sb.length : Int) := by omega
        go_wp2_with (go_at_call 12; refine (HL.out _ (HT.out.later B1.out)).mono ?_; rintro z W3 ⟨rfl, hb⟩; have HB3 := Lib.hid (B1.out.trans (hb.mono B1.out.size)); clear hb)
        all_goals (go_ret; exact ⟨rfl, HB3.out⟩)
      · have h1' : ¬ (256 : Int) < (sb.length : Int) := by omega
        by_cases h2 : 256 < l.length
        · have h2' : (256 : Int) < (l.length : Int) := by omega
          go_wp2_with (go_at_call 12; refine (HL.out _ (HT.out.later B1.out)).mono ?_; rintro z W3 ⟨rfl, hb⟩; have HB3 := Lib.hid (B1.out.trans (hb.mono B1.out.size)); clear hb)
          all_goals (go_ret; exact ⟨rfl, HB3.out⟩)
        · have h2' : ¬ (256 : Int) < (l.length : Int) := by omega
          obtain ⟨b0, b1, b2, b3, b4, t2, t4, e, p, hA, hB⟩ := parse_same l sb (by omega) (by omega) (HS2.out.trans hF.symm)
          have HA := Lib.hid hA
          have HC := Lib.hid hB
          clear hA hB
          have tok1 : True := trivial
          go_wp2_with (first | (go_at_call 10; have _t := tok1; refine (HA.out _ (HT.out.later B1.out).1).mono ?_; rintro z W3 ⟨rfl, hb⟩; clear tok1 _t; have z3 := hb.size; have B3 := Lib.hid (B1.out.trans (hb.mono B1.out.size)); clear hb) | (go_at_call 10; refine (HC.out _ (HT.out.later (B3.out.alloc B3.out.size (.cells #[.int .u64 b0, .int .u64 b1, .int .u64 b2, .int .u64 b3, .int .u64 b4, .bool t2, .bool t4] 24))).1).mono ?_; rintro z W4 ⟨rfl, hb⟩; have R1 := Lib.hid (row_below hb (by simp) (heap_new W3 (.cells #[.int .u64 b0, .int .u64 b1, .int .u64 b2, .int .u64 b3, .int .u64 b4, .bool t2, .bool t4] 24))); have z4 : W3.heap.size < W4.heap.size := (by have := hb.size; simp at this; omega); have B4 := Lib.hid (((B3.out.alloc B3.out.size (.cells #[.int .u64 b0, .int .u64 b1, .int .u64 b2, .int .u64 b3, .int .u64 b4, .bool t2, .bool t4] 24)).trans (hb.mono (by have := B3.out.size; simp; omega))).alloc (by have := B3.out.size; omega) (.cells #[.int .u64 b0, .int .u64 b1, .int .u64 b2, .int .u64 b3, .int .u64 b4, .bool t2, .bool t4] 24)); clear hb) | (go_at_call 12; refine (HL.out _ (HT.out.later B4.out)).mono ?_; rintro z W5 ⟨rfl, hb⟩; have HB5 := Lib.hid (B4.out.trans (hb.mono B4.out.size)); obtain ⟨c1, f1⟩ := cells_of_heap (row_below hb (by simp; omega) (heap_old _ z4 R1.out)); obtain ⟨c2, f2⟩ := cells_of_heap (row_below hb (by simp) (heap_new W4 _)); clear hb))
          all_goals (go_ret; exact ⟨rfl, HB5.out⟩)
end Go.Proofs.YtgalpngbhacpkaaDoor
