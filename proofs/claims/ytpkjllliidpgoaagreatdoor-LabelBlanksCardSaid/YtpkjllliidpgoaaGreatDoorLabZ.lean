/- Walk of the law LabelLaws. (gen_lablaws.py wrote it.) -/
import Derived.Test.YtpkjllliidpgoaaGreatDoorLabU
import Derived.Test.YtpkjllliidpgoaaGreatDoorAppendK
set_option linter.unusedSimpArgs false
set_option linter.unusedVariables false
namespace Go.Proofs.YtpkjllliidpgoaaGreatDoor
open Go.ChangeShapes Go.WideShapes Go.ChangeAt Go.RowKit Go.Base Go.Lab

theorem clCs_len (l : List Cl) : (l.flatMap clC).length = l.length * 3 := by
  induction l with
  | nil => rfl
  | cons c l ih => rw [List.flatMap_cons, List.length_append, ih, List.length_cons]; show 3 + _ = _; omega
theorem clCs_one (l : List Cl) : ∀ u ∈ l.flatMap clC, u.oneCell' = true := fun u hu => by
  obtain ⟨c, _, h⟩ := List.mem_flatMap.1 hu
  exact clC_one c u h
theorem cls_src {w : World} {A : Option Addr} {l : List Cl} (h : Cls w A l) : 0 < l.length → ∃ ad, A = some ad ∧ ∀ j u, (l.flatMap clC)[j]? = some u → w.cell? (ad.add j) = some u := fun h0 => by
  obtain ⟨b, o, rfl, _⟩ := h 0 h0
  refine ⟨_, rfl, fun j u hu => ?_⟩
  have hj : j < l.length * 3 := by have := (List.getElem?_eq_some_iff.1 hu).1; rwa [clCs_len] at this
  have hadd : (⟨b, o, none⟩ : Addr).add j = ⟨b, o + j, none⟩ := by unfold Addr.add; split <;> simp_all
  rw [hadd]
  have hi : j / 3 < l.length := by omega
  obtain ⟨b', o', e, c0, c1, c2, _⟩ := h (j / 3) hi
  injection e with e; injection e with e1 e2 _; subst e1; subst e2
  have hq := flat_at l (j / 3) hi (j % 3) (Nat.mod_lt _ (by omega))
  rw [show j / 3 * 3 + j % 3 = j by omega, hu] at hq
  rcases (by omega : j % 3 = 0 ∨ j % 3 = 1 ∨ j % 3 = 2) with e | e | e <;> rw [e] at hq
  · rw [show o + j = o + j / 3 * 3 by omega, c0]; exact hq.symm
  · rw [show o + j = o + j / 3 * 3 + 1 by omega, c1]; exact hq.symm
  · rw [show o + j = o + j / 3 * 3 + 2 by omega, c2]; exact hq.symm
theorem cls_own {w : World} {base n : Nat} {A : Option Addr} {cap : Nat} {l : List Cl} (h : w.ownsRow base 42 3 (.slice A n cap) n (l.flatMap clC)) (hn : l.length = n) (hf : ∀ c ∈ l, c.Fit w) : Cls w A l := fun i hi => by
  have key : ∀ j, j < 3 → ∃ g, A = some ⟨g, 0, none⟩ ∧ w.cell? ⟨g, i * 3 + j, none⟩ = (clC l[i])[j]? := fun j hj => by
    obtain ⟨g, e, hc⟩ := own_cell h rfl (i * 3 + j) (by omega)
    exact ⟨g, e, by rw [hc, flat_at l i hi j hj]⟩
  obtain ⟨g, e, k0⟩ := key 0 (by omega)
  obtain ⟨g1, e1, k1⟩ := key 1 (by omega)
  obtain ⟨g2, e2, k2⟩ := key 2 (by omega)
  rw [e] at e1 e2
  injection e1 with e1; injection e1 with e1 _ _; subst e1
  injection e2 with e2; injection e2 with e2 _ _; subst e2
  exact ⟨g, 0, e, by rw [Nat.zero_add]; exact k0, by rw [Nat.zero_add]; exact k1, by rw [Nat.zero_add]; exact k2, hf _ (List.getElem_mem _)⟩
theorem cls_fit {w : World} {A : Option Addr} {l : List Cl} (h : Cls w A l) : ∀ c ∈ l, c.Fit w := fun c hc => by
  obtain ⟨i, hi, rfl⟩ := List.mem_iff_getElem.1 hc
  obtain ⟨_, _, _, _, _, _, hf⟩ := h i hi
  exact hf
theorem cls_one {w : World} {b o : Nat} {l : List Cl} (h : Cls w (some ⟨b, o, none⟩) l) {i : Nat} (hi : i < l.length) : Cls w (some ⟨b, o + i * 3, none⟩) [l[i]] := fun j hj => by
  obtain rfl : j = 0 := by simp at hj; omega
  obtain ⟨b', o', e, c0, c1, c2, hf⟩ := h i hi
  injection e with e; injection e with e1 e2 _; subst e1; subst e2
  exact ⟨b, o + i * 3, rfl, c0, c1, c2, hf⟩
theorem cls_new {w : World} {g : Nat} {c : Cl} (h : w.heap[g]? = some (.cells #[.int .i64 c.kind, strV c.key, .slice c.la c.vals.length c.lc] 42 (0, 0))) (hf : c.Fit w) : Cls w (some ⟨g, 0, none⟩) [c] := fun j hj => by
  obtain rfl : j = 0 := by simp at hj; omega
  have hc := (cells_of_heap h).1
  exact ⟨g, 0, rfl, by rw [hc]; rfl, by rw [hc]; rfl, by rw [hc]; rfl, hf⟩
theorem both_cls {w : World} {base : Nat} {A : Option Addr} {cap : Nat} {a b : List Cl} (h : w.ownsRow base 42 3 (.slice A (a.length + b.length) cap) (a.length + b.length) (a.flatMap clC ++ b.flatMap clC)) (ha : ∀ c ∈ a, c.Fit w) (hb : ∀ c ∈ b, c.Fit w) : Cls w A (a ++ b) := by
  rw [← List.flatMap_append] at h
  exact cls_own h (by simp) (fun c hc => (List.mem_append.1 hc).elim (ha c) (hb c))
/-- What an argument of type []api.Clause gives. -/
theorem cls_args {w : World} {a : Option Addr} {l : List Cl} (h : ∀ (i : Nat) (h : i < l.length), ∃ b o, a = some ⟨b, o, none⟩ ∧
        (w.cell? ⟨b, o + i * 3, none⟩ = some (.int .i64 l[i].kind) ∧ w.cell? ⟨b, o + i * 3 + 1, none⟩ = some (strV l[i].key) ∧ w.cell? ⟨b, o + i * 3 + 2, none⟩ = some (.slice l[i].la l[i].vals.length l[i].lc)) ∧ l[i].Fit w ∧
        -9223372036854775808 ≤ l[i].kind ∧ l[i].kind ≤ 9223372036854775807) : Cls w a l := fun i hi => by
  obtain ⟨b, o, e, ⟨c0, c1, c2⟩, hf, _⟩ := h i hi
  exact ⟨b, o, e, c0, c1, c2, hf⟩
theorem cls_kinds {w : World} {a : Option Addr} {l : List Cl} (h : ∀ (i : Nat) (h : i < l.length), ∃ b o, a = some ⟨b, o, none⟩ ∧
        (w.cell? ⟨b, o + i * 3, none⟩ = some (.int .i64 l[i].kind) ∧ w.cell? ⟨b, o + i * 3 + 1, none⟩ = some (strV l[i].key) ∧ w.cell? ⟨b, o + i * 3 + 2, none⟩ = some (.slice l[i].la l[i].vals.length l[i].lc)) ∧ l[i].Fit w ∧
        -9223372036854775808 ≤ l[i].kind ∧ l[i].kind ≤ 9223372036854775807) : ∀ c ∈ l, -9223372036854775808 ≤ c.kind ∧ c.kind ≤ 9223372036854775807 := fun c hc => by
  obtain ⟨i, hi, rfl⟩ := List.mem_iff_getElem.1 hc
  obtain ⟨b, o, e, _, _, h1, h2⟩ := h i hi
  exact ⟨h1, h2⟩
theorem fit_kind {w : World} {k : Int} {key : Bytes} {la : Option Addr} {vals : List Bytes} {lc : Nat} (h : (⟨k, key, la, vals, lc⟩ : Cl).Fit w) (k' : Int) : (⟨k', key, la, vals, lc⟩ : Cl).Fit w := ⟨h.k, h.v, h.m, h.c⟩
theorem mCl_not (l : List Lb) (key : Bytes) (la : Option Addr) (vals : List Bytes) (lc : Nat) (k1 k2 : Int) (h : (k1 = 1 ∧ k2 = 2) ∨ (k1 = 2 ∧ k2 = 1) ∨ (k1 = 3 ∧ k2 = 4) ∨ (k1 = 4 ∧ k2 = 3)) : mClause l ⟨k2, key, la, vals, lc⟩ = !mClause l ⟨k1, key, la, vals, lc⟩ := by
  unfold mClause
  have e12 : mOne l 2 key vals = !mOne l 1 key vals := rfl
  have e34 : mOne l 4 key vals = !mOne l 3 key vals := rfl
  rcases h with ⟨rfl, rfl⟩ | ⟨rfl, rfl⟩ | ⟨rfl, rfl⟩ | ⟨rfl, rfl⟩
  · exact e12
  · show mOne l 1 key vals = !mOne l 2 key vals; rw [e12, Bool.not_not]
  · exact e34
  · show mOne l 3 key vals = !mOne l 4 key vals; rw [e34, Bool.not_not]

set_option maxHeartbeats 4000000 in
set_option maxRecDepth 20000 in
theorem law_laws (A B : Option Addr) (a b : List Cl) (ca cb : Nat) (L : Option Addr) (l : List Lb) (cl : Nat) (w : World) (hV : VarI w) (hA : Cls w A a) (hB : Cls w B b) (hL : Labs w L l) (ha : a.length ≤ 1048576) (hb : b.length ≤ 1048576) (hl : l.length ≤ maxLen) (hca : a.length ≤ ca)
    (hk : ∀ c ∈ a, -9223372036854775808 ≤ c.kind ∧ c.kind ≤ 9223372036854775807) :
    Calls Tryz.prog 5 #[.slice A a.length ca, .slice B b.length cb, .slice L l.length cl] w fun e w' => e = .returned (.bool true) ∧ Below w.heap.size w w' := by
  have HA := Lib.hid hA
  have HB := Lib.hid hB
  have HL := Lib.hid hL
  have HLi := Lib.hid (fun W (h : Below w.heap.size w W) => lives_any W (hV.later h))
  have HK := Lib.hid hk
  have ha' : (a.length : Int) ≤ 1048576 := by omega
  have HMa : Hid (∀ V, Below w.heap.size w V → Calls Tryz.prog 22 #[.slice A a.length ca, .slice L l.length cl] V fun e w' => e = .returned (.bool (mAll l a)) ∧ Below V.heap.size V w') := Lib.hid (fun V hb => matches_any A L a l ca cl V (hA.later hb) (hL.later hb) (by unfold maxLen; omega) hl)
  have HMb : Hid (∀ V, Below w.heap.size w V → Calls Tryz.prog 22 #[.slice B b.length cb, .slice L l.length cl] V fun e w' => e = .returned (.bool (mAll l b)) ∧ Below V.heap.size V w') := Lib.hid (fun V hb' => matches_any B L b l cb cl V (hB.later hb') (hL.later hb') (by unfold maxLen; omega) hl)
  have HMab : Hid (∀ V X c, Below w.heap.size w V → Cls V X (a ++ b) → Calls Tryz.prog 22 #[.slice X (a.length + b.length) c, .slice L l.length cl] V fun e w' => e = .returned (.bool (mAll l a && mAll l b)) ∧ Below V.heap.size V w') := Lib.hid (fun V X c hb' hc => by
    have := matches_any X L (a ++ b) l c cl V hc (hL.later hb') (by rw [List.length_append]; unfold maxLen; omega) hl
    rw [List.length_append] at this
    unfold mAll at this ⊢; rw [List.all_append] at this; exact this)
  have HMba : Hid (∀ V X c, Below w.heap.size w V → Cls V X (b ++ a) → Calls Tryz.prog 22 #[.slice X (b.length + a.length) c, .slice L l.length cl] V fun e w' => e = .returned (.bool (mAll l a && mAll l b)) ∧ Below V.heap.size V w') := Lib.hid (fun V X c hb' hc => by
    have := matches_any X L (b ++ a) l c cl V hc (hL.later hb') (by rw [List.length_append]; unfold maxLen; omega) hl
    rw [List.length_append] at this
    unfold mAll at this ⊢; rw [List.all_append, Bool.and_comm] at this; exact this)
  have HMx : Hid (∀ V g d (c : Cl), Below w.heap.size w V → Cls V g [c] → Calls Tryz.prog 22 #[.slice g 1 d, .slice L l.length cl] V fun e w' => e = .returned (.bool (mClause l c)) ∧ Below V.heap.size V w') := Lib.hid (fun V g d c hb' hc => by
    have := matches_any g L [c] l d cl V hc (hL.later hb') (by show 1 ≤ maxLen; unfold maxLen; decide) hl
    unfold mAll at this; rw [List.all_cons, List.all_nil, Bool.and_true] at this; exact this)
  have HFit := Lib.hid (fun V (hb' : Below w.heap.size w V) => cls_fit (hA.later hb'))
  have HLa := Lib.hid (clCs_len a)
  have HLb := Lib.hid (clCs_len b)
  obtain ⟨i0, hinfo, hz0, hz1, hz2⟩ := info_parts (P := Tryz.prog) (e := 42) (z := .agg #[.int .i64 0, .string ⟨#[]⟩, .slice none 0 0]) (size := 3) (bytes := 48) (by kernel_rfl)
  have HW0 : Hid (Below w.heap.size w (w.alloc (.cells #[] 42))) := Lib.hid (below_alloc _ _)
  clear hV hA hB hL hk
  generalize mAll l a = qa at *
  generalize mAll l b = qb at *
  have e0 : (true && true) = true := rfl
  have e1 : (true && false) = false := rfl
  have e2 : (false && true) = false := rfl
  have e3 : (false && false) = false := rfl
  cases qa <;> cases qb
  case false.false =>
   simp only [e0, e1, e2, e3] at HMab HMba
   clear e0 e1 e2 e3
   go_enter Tryz.func5, Tryz.ntmps5
   go_wp2_with (first
     | (at_builtin; refine wpList_append_k _ rfl (.tmp 11) (.tmp 12) 33 rfl 42 i0 (.agg #[.int .i64 0, .string ⟨#[]⟩, .slice none 0 0]) 3 48 Tryz.underlying33 hinfo hz0 hz1 hz2 rfl (by decide) w.heap.size _ 0 [] rfl (World.ownsRow_made w #[] 0 (Nat.le_refl _) (Nat.zero_le _) rfl) A a.length ca (a.flatMap clC) rfl HLa.out (cls_src (HA.out.later HW0.out)) (clCs_one a) (by unfold maxLen; omega) (by omega) (by simp) ?_; intro A1 c1 w1 hown1 hgrow1 _; simp only [Nat.zero_add, List.nil_append] at hown1; have HO1 := Lib.hid hown1; have HB1 := Lib.hid (HW0.out.grown hgrow1 (by simp) (fun k e => by injection e with e; exact Nat.le_of_eq e)); clear hown1 hgrow1)
     | (at_builtin; refine wpList_append_k _ rfl (.tmp 13) (.tmp 14) 33 rfl 42 i0 (.agg #[.int .i64 0, .string ⟨#[]⟩, .slice none 0 0]) 3 48 Tryz.underlying33 hinfo hz0 hz1 hz2 rfl (by decide) w.heap.size _ a.length (a.flatMap clC) rfl HO1.out B b.length cb (b.flatMap clC) rfl HLb.out (cls_src (HB.out.later HB1.out)) (clCs_one b) (by unfold maxLen; omega) (by omega) (by have := HB1.out.size; omega) ?_; intro A2 c2 w2 hown2 hgrow2 _; have HB2 := Lib.hid (HB1.out.grown hgrow2 HB1.out.size (fun k e => (HO1.out.lt k e).1)); have HO2 := Lib.hid hown2; clear hown2 hgrow2; have HC2 := Lib.hid (both_cls HO2.out (fun c hc => cls_fit (HA.out.later HB2.out) c hc) (fun c hc => cls_fit (HB.out.later HB2.out) c hc)); have HW2 := Lib.hid (below_alloc w2 (.cells #[] 42)); have HW3 := Lib.hid (HB2.out.alloc HB2.out.size (.cells #[] 42)))
     | (at_builtin; refine wpList_append_k _ rfl (.tmp 16) (.tmp 17) 33 rfl 42 i0 (.agg #[.int .i64 0, .string ⟨#[]⟩, .slice none 0 0]) 3 48 Tryz.underlying33 hinfo hz0 hz1 hz2 rfl (by decide) w2.heap.size _ 0 [] rfl (World.ownsRow_made w2 #[] 0 (Nat.le_refl _) (Nat.zero_le _) rfl) B b.length cb (b.flatMap clC) rfl HLb.out (cls_src (HB.out.later HW3.out)) (clCs_one b) (by unfold maxLen; omega) (by omega) (by simp) ?_; intro A3 c3 w3 hown3 hgrow3 _; simp only [Nat.zero_add, List.nil_append] at hown3; have HO3 := Lib.hid hown3; have HB3 := Lib.hid (HW2.out.grown hgrow3 (by simp) (fun k e => by injection e with e; exact Nat.le_of_eq e)); clear hown3 hgrow3)
     | (at_builtin; refine wpList_append_k _ rfl (.tmp 18) (.tmp 19) 33 rfl 42 i0 (.agg #[.int .i64 0, .string ⟨#[]⟩, .slice none 0 0]) 3 48 Tryz.underlying33 hinfo hz0 hz1 hz2 rfl (by decide) w2.heap.size _ b.length (b.flatMap clC) rfl HO3.out A a.length ca (a.flatMap clC) rfl HLa.out (cls_src (HA.out.later (HB2.out.trans (HB3.out.mono HB2.out.size)))) (clCs_one a) (by unfold maxLen; omega) (by omega) (by have := HB3.out.size; omega) ?_; intro A4 c4 w4 hown4 hgrow4 _; have HB4 := Lib.hid (HB3.out.grown hgrow4 HB3.out.size (fun k e => (HO3.out.lt k e).1)); have HBw := Lib.hid (HB2.out.trans (HB4.out.mono HB2.out.size)); have HO4 := Lib.hid hown4; clear hown4 hgrow4; have HC4 := Lib.hid (both_cls HO4.out (fun c hc => cls_fit (HB.out.later HBw.out) c hc) (fun c hc => cls_fit (HA.out.later HBw.out) c hc)); have HC24 := Lib.hid (HC2.out.later HB4.out))
     | (go_at_call 12; refine Calls.mono (by with_reducible exact HLi.out _ HBw.out) ?_; rintro e w5 ⟨rfl, hb⟩; have HBw5 := Lib.hid (HBw.out.trans (hb.mono HBw.out.size)); have HC45 := Lib.hid (HC4.out.later hb); have HC25 := Lib.hid (HC24.out.later hb); clear hb)
     | (go_at_call 22; refine Calls.mono (by with_reducible exact HMab.out _ A2 c2 HBw5.out HC25.out) ?_; rintro e w6 ⟨rfl, hb⟩; have HBw6 := Lib.hid (HBw5.out.trans (hb.mono HBw5.out.size)); have HC46 := Lib.hid (HC45.out.later hb); have HC26 := Lib.hid (HC25.out.later hb); clear hb HC45 HC25)
     | (go_at_call 22; refine Calls.mono (by with_reducible exact HMa.out _ HBw6.out) ?_; rintro e w7 ⟨rfl, hb⟩; have HBw7 := Lib.hid (HBw6.out.trans (hb.mono HBw6.out.size)); have HC47 := Lib.hid (HC46.out.later hb); have HC27 := Lib.hid (HC26.out.later hb); clear hb)
     | (go_at_call 22; refine Calls.mono (by with_reducible exact HMb.out _ HBw7.out) ?_; rintro e w8 ⟨rfl, hb⟩; have HBw8 := Lib.hid (HBw7.out.trans (hb.mono HBw7.out.size)); have HC48 := Lib.hid (HC47.out.later hb); have HC28 := Lib.hid (HC27.out.later hb); clear hb)
     | (go_at_call 22; (first | refine Calls.mono (by with_reducible exact HMab.out _ A2 c2 HBw8.out HC28.out) ?_ | refine Calls.mono (by with_reducible exact HMab.out _ A2 c2 HBw7.out HC27.out) ?_); rintro e w9 ⟨rfl, hb⟩; (first | have HBw9 := Lib.hid (HBw8.out.trans (hb.mono HBw8.out.size)) | have HBw9 := Lib.hid (HBw7.out.trans (hb.mono HBw7.out.size))); (first | have HC49 := Lib.hid (HC48.out.later hb) | have HC49 := Lib.hid (HC47.out.later hb)); clear hb)
     | (go_at_call 22; refine Calls.mono (by with_reducible exact HMba.out _ A4 c4 HBw9.out HC49.out) ?_; rintro e w10 ⟨rfl, hb⟩; have HBx := Lib.hid (HBw9.out.trans (hb.mono HBw9.out.size)); clear hb))
   clear HMab HMba HMa HMb HO1 HO2 HO3 HO4 HB1 HB2 HB3 HB4
   go_loopw [9, 10] (fun i p wr => ∃ k : Nat, k ≤ a.length ∧ i = .int .i64 (k : Int) ∧ Hid (Below w.heap.size w wr)) (fun i _ _ => a.length - (intOf i).toNat)
   case atStart => exact ⟨0, Nat.zero_le _, rfl, HBx⟩
   case round =>
     obtain ⟨k, hkl, rfl, HBr⟩ := hrel
     by_cases hlt : k < a.length
     · have hlt' : (k : Int) < (a.length : Int) := by omega
       have hk0 : (0 : Int) ≤ (k : Int) := by omega
       obtain ⟨b', o', rfl, c0', c1', c2', hfit⟩ := (HA.out.later HBr.out) k hlt
       have HKk := Lib.hid (HK.out a[k] (List.getElem_mem _))
       have HF := Lib.hid hfit
       clear hfit
       generalize hx : a[k] = x at *
       have HX := Lib.hid hx
       clear hx
       obtain ⟨kind, key, la, vals, lc⟩ := x
       simp only at c0' c1' c2' HKk
       have hkd := HKk.out
       have hk1 : (0 : Int) ≤ (k : Int) + 1 := by omega
       have hk63 : (k : Int) + 1 ≤ 9223372036854775807 := by omega
       have hkc : (k : Int) + 1 ≤ (ca : Int) := by omega
       have hkn : ((k : Int) + 1).toNat = k + 1 := by omega
       have hck : ¬ ca = k := by omega
       have hwr : IntKind.i64.wrap ((k : Int) + 1) = (k : Int) + 1 := by rw [IntKind.wrap_i64]; omega
       by_cases h1 : kind = 1
       · subst h1
         go_wp2_with fail
         have hH0 := heap_new wr (.cells #[.int .i64 2, strV key, .slice la vals.length lc] 42)
         have hB0 := HBr.out.alloc HBr.out.size (.cells #[.int .i64 2, strV key, .slice la vals.length lc] 42)
         have HFx := Lib.hid (fit_kind (HF.out.later (below_alloc wr (.cells #[.int .i64 2, strV key, .slice la vals.length lc] 42))) 2)
         have hg : wr.heap.size < (wr.alloc (.cells #[.int .i64 2, strV key, .slice la vals.length lc] 42)).heap.size := by simp
         generalize wr.alloc (.cells #[.int .i64 2, strV key, .slice la vals.length lc] 42) = W0 at *
         generalize wr.heap.size = g at *
         obtain ⟨d0, d1, d2⟩ : W0.cell? ⟨g, 0, none⟩ = some (.int .i64 2) ∧ W0.cell? ⟨g, 1, none⟩ = some (strV key) ∧ W0.cell? ⟨g, 2, none⟩ = some (.slice la vals.length lc) := by have hc := (cells_of_heap hH0).1; exact ⟨hc 0, hc 1, hc 2⟩
         have HB0 := Lib.hid hB0
         have HLT := Lib.hid hg
         have HQ : Hid (mClause l ⟨2, key, la, vals, lc⟩ = !mClause l ⟨1, key, la, vals, lc⟩) := Lib.hid (mCl_not l key la vals lc _ _ (by decide))
         have HM2 := Lib.hid (fun V gg d h1 h2 => HMx.out V gg d ⟨2, key, la, vals, lc⟩ h1 h2)
         have HM1 := Lib.hid (fun V gg d h1 h2 => HMx.out V gg d ⟨1, key, la, vals, lc⟩ h1 h2)
         have HC1 := Lib.hid (fun V (h : Below w.heap.size w V) => cls_one (HA.out.later h) hlt)
         rw [HX.out] at HC1
         rw [HQ.out] at HM2
         generalize mClause l ⟨1, key, la, vals, lc⟩ = q at *
         have HD : Hid (∀ V, Below W0.heap.size W0 V → (fun w' => w'.cell? ⟨g, 0, none⟩ = some (.int .i64 2) ∧ w'.cell? ⟨g, 1, none⟩ = some (strV key) ∧ w'.cell? ⟨g, 2, none⟩ = some (.slice la vals.length lc) ∧ Below W0.heap.size W0 w') V) := Lib.hid (fun V h => ⟨(h.cell (p := ⟨g, 0, none⟩) HLT.out).trans d0, (h.cell (p := ⟨g, 1, none⟩) HLT.out).trans d1, (h.cell (p := ⟨g, 2, none⟩) HLT.out).trans d2, h⟩)
         clear hH0 hB0 hg HQ
         refine wp_region_held_drew (S := (fun w' => w'.cell? ⟨g, 0, none⟩ = some (.int .i64 2) ∧ w'.cell? ⟨g, 1, none⟩ = some (strV key) ∧ w'.cell? ⟨g, 2, none⟩ = some (.slice la vals.length lc) ∧ Below W0.heap.size W0 w')) (by kernel_rfl) (HD.out _ (Below.refl _ _).drew) (fun hHeld => ?_)
         clear d0 d1 d2
         refine wpAnyH_take (i := 0) (v := ?vv1) rfl (by kernel_rfl) (by kernel_rfl) (by kernel_rfl) (fun _ _ _ h => h) (Or.inl ⟨by rfl, ?hy1⟩) hHeld ?rr1
         case hy1 => (intro w' hSw; obtain ⟨g0, g1, g2, g3⟩ := hSw; go_simp; try with_reducible rfl)
         try simp only [Act.put, List.setIfInBounds_toArray, List.set_cons_zero, List.set_cons_succ, List.getElem_toArray, List.getElem_cons_succ, List.getElem_cons_zero]
         refine wpAnyH_take (i := 2) (v := ?vv2) rfl (by kernel_rfl) (by kernel_rfl) (by kernel_rfl) (fun _ _ _ h => h) (Or.inl ⟨by rfl, ?hy2⟩) hHeld ?rr2
         case hy2 => (intro w' hSw; obtain ⟨g0, g1, g2, g3⟩ := hSw; go_simp; try with_reducible rfl)
         try simp only [Act.put, List.setIfInBounds_toArray, List.set_cons_zero, List.set_cons_succ, List.getElem_toArray, List.getElem_cons_succ, List.getElem_cons_zero]
         refine wpAnyH_take (i := 4) (v := ?vv3) rfl (by kernel_rfl) (by kernel_rfl) (by kernel_rfl) (fun _ _ _ h => h) (Or.inl ⟨by rfl, ?hy3⟩) hHeld ?rr3
         case hy3 => (intro w' hSw; obtain ⟨g0, g1, g2, g3⟩ := hSw; go_simp; try with_reducible rfl)
         try simp only [Act.put, List.setIfInBounds_toArray, List.set_cons_zero, List.set_cons_succ, List.getElem_toArray, List.getElem_cons_succ, List.getElem_cons_zero]
         refine wpAnyH_take (i := 5) (v := ?vv4) rfl (by kernel_rfl) (by kernel_rfl) (by kernel_rfl) (fun _ _ _ h => h) (Or.inl ⟨by rfl, ?hy4⟩) hHeld ?rr4
         case hy4 => (intro w' hSw; obtain ⟨g0, g1, g2, g3⟩ := hSw; go_simp; try with_reducible rfl)
         try simp only [Act.put, List.setIfInBounds_toArray, List.set_cons_zero, List.set_cons_succ, List.getElem_toArray, List.getElem_cons_succ, List.getElem_cons_zero]
         refine wpAnyH_take (i := 6) (v := ?vv5) rfl (by kernel_rfl) (by kernel_rfl) (by kernel_rfl) (fun _ _ _ h => h) (Or.inl ⟨by rfl, ?hy5⟩) hHeld ?rr5
         case hy5 => (intro w' hSw; obtain ⟨g0, g1, g2, g3⟩ := hSw; go_simp; try with_reducible rfl)
         try simp only [Act.put, List.setIfInBounds_toArray, List.set_cons_zero, List.set_cons_succ, List.getElem_toArray, List.getElem_cons_succ, List.getElem_cons_zero]
         refine wpAnyH_take (i := 7) (v := ?vv6) rfl (by kernel_rfl) (by kernel_rfl) (by kernel_rfl) (fun _ _ _ h => h) (Or.inl ⟨by rfl, ?hy6⟩) hHeld ?rr6
         case hy6 => (intro w' hSw; obtain ⟨g0, g1, g2, g3⟩ := hSw; go_simp; try with_reducible rfl)
         try simp only [Act.put, List.setIfInBounds_toArray, List.set_cons_zero, List.set_cons_succ, List.getElem_toArray, List.getElem_cons_succ, List.getElem_cons_zero]
         refine wpAnyH_take (i := 8) (v := ?vv7) rfl (by kernel_rfl) (by kernel_rfl) (by kernel_rfl) (fun _ _ _ h => h) (Or.inl ⟨by rfl, ?hy7⟩) hHeld ?rr7
         case hy7 => (intro w' hSw; obtain ⟨g0, g1, g2, g3⟩ := hSw; go_simp; try with_reducible rfl)
         try simp only [Act.put, List.setIfInBounds_toArray, List.set_cons_zero, List.set_cons_succ, List.getElem_toArray, List.getElem_cons_succ, List.getElem_cons_zero]
         refine wpAnyH_take (i := 9) (v := ?vv8) rfl (by kernel_rfl) (by kernel_rfl) (by kernel_rfl) (fun _ _ _ h => h) (Or.inl ⟨by rfl, ?hy8⟩) hHeld ?rr8
         case hy8 => (intro w' hSw; obtain ⟨g0, g1, g2, g3⟩ := hSw; go_simp; try with_reducible rfl)
         try simp only [Act.put, List.setIfInBounds_toArray, List.set_cons_zero, List.set_cons_succ, List.getElem_toArray, List.getElem_cons_succ, List.getElem_cons_zero]
         refine wpAnyH_ready (rs := [1]) (by kernel_rfl) (by simp) ?_
         refine AllReadyH.cons rfl (fun K hK => ?_) AllReadyH.nil
         go_simp
         have hB1 : Below W0.heap.size W0 (W0.alloc (.cells #[.int .i64 2, strV key, .slice la vals.length lc] 42)).drew := (below_alloc _ _).drew
         have hH1 : (W0.alloc (.cells #[.int .i64 2, strV key, .slice la vals.length lc] 42)).drew.heap[W0.heap.size]? = _ := heap_new W0 (.cells #[.int .i64 2, strV key, .slice la vals.length lc] 42)
         generalize (W0.alloc (.cells #[.int .i64 2, strV key, .slice la vals.length lc] 42)).drew = W1 at *
         refine hK.out _ _ (HD.out _ hB1) (fun hHeld2 => ?_)
         clear hK K hHeld
         have hHeld := hHeld2
         clear hHeld2
         try simp only [Act.put, List.setIfInBounds_toArray, List.set_cons_zero, List.set_cons_succ, List.getElem_toArray, List.getElem_cons_succ, List.getElem_cons_zero]
         refine wpAnyH_ready (rs := [3]) (by kernel_rfl) (by simp) ?_
         refine AllReadyH.cons rfl (fun K hK => ?_) AllReadyH.nil
         go_simp
         go_at_call 22
         refine Calls.mono (by with_reducible exact HM2.out _ _ _ (HB0.out.trans (hB1.mono HB0.out.size)) (cls_new hH1 (HFx.out.later hB1))) ?_
         rintro e W2 ⟨rfl, hb⟩
         have hB2 := hB1.trans (hb.mono hB1.size)
         clear hb hB1 hH1
         go_wp2_with fail
         refine hK.out _ _ (HD.out _ hB2) (fun hHeld2 => ?_)
         clear hK K hHeld
         have hHeld := hHeld2
         clear hHeld2
         try simp only [Act.put, List.setIfInBounds_toArray, List.set_cons_zero, List.set_cons_succ, List.getElem_toArray, List.getElem_cons_succ, List.getElem_cons_zero]
         refine wpAnyH_ready (rs := [10]) (by kernel_rfl) (by simp) ?_
         refine AllReadyH.cons rfl (fun K hK => ?_) AllReadyH.nil
         go_simp
         go_at_call 22
         refine Calls.mono (by with_reducible exact HM1.out _ _ _ (HB0.out.trans (hB2.mono HB0.out.size)) (HC1.out _ (HB0.out.trans (hB2.mono HB0.out.size)))) ?_
         rintro e W3 ⟨rfl, hb⟩
         have hB3 := hB2.trans (hb.mono hB2.size)
         clear hb hB2
         go_wp2_with fail
         refine hK.out _ _ (HD.out _ hB3) (fun hHeld2 => ?_)
         clear hK K hHeld
         have hHeld := hHeld2
         clear hHeld2
         try simp only [Act.put, List.setIfInBounds_toArray, List.set_cons_zero, List.set_cons_succ, List.getElem_toArray, List.getElem_cons_succ, List.getElem_cons_zero]
         refine wpAnyH_take (i := 11) (v := ?vv9) rfl (by kernel_rfl) (by kernel_rfl) (by kernel_rfl) (fun _ _ _ h => h) (Or.inl ⟨by rfl, ?hy9⟩) hHeld ?rr9
         case hy9 => (intro w' hSw; obtain ⟨g0, g1, g2, g3⟩ := hSw; go_simp; try with_reducible rfl)
         try simp only [Act.put, List.setIfInBounds_toArray, List.set_cons_zero, List.set_cons_succ, List.getElem_toArray, List.getElem_cons_succ, List.getElem_cons_zero]
         refine wpAnyH_done (by kernel_rfl) ?_ _
         clear hHeld
         have HB4 := Lib.hid (HB0.out.trans (hB3.mono HB0.out.size))
         clear hB3 HD HM1 HM2 HC1
         go_wp2
         go_roundw
         case rel => exact ⟨k + 1, by omega, by go_num, HB4⟩
         case measure => simp [intOf]; omega
       by_cases h2 : kind = 2
       · subst h2
         go_wp2_with fail
         have hH0 := heap_new wr (.cells #[.int .i64 1, strV key, .slice la vals.length lc] 42)
         have hB0 := HBr.out.alloc HBr.out.size (.cells #[.int .i64 1, strV key, .slice la vals.length lc] 42)
         have HFx := Lib.hid (fit_kind (HF.out.later (below_alloc wr (.cells #[.int .i64 1, strV key, .slice la vals.length lc] 42))) 1)
         have hg : wr.heap.size < (wr.alloc (.cells #[.int .i64 1, strV key, .slice la vals.length lc] 42)).heap.size := by simp
         generalize wr.alloc (.cells #[.int .i64 1, strV key, .slice la vals.length lc] 42) = W0 at *
         generalize wr.heap.size = g at *
         obtain ⟨d0, d1, d2⟩ : W0.cell? ⟨g, 0, none⟩ = some (.int .i64 1) ∧ W0.cell? ⟨g, 1, none⟩ = some (strV key) ∧ W0.cell? ⟨g, 2, none⟩ = some (.slice la vals.length lc) := by have hc := (cells_of_heap hH0).1; exact ⟨hc 0, hc 1, hc 2⟩
         have HB0 := Lib.hid hB0
         have HLT := Lib.hid hg
         have HQ : Hid (mClause l ⟨1, key, la, vals, lc⟩ = !mClause l ⟨2, key, la, vals, lc⟩) := Lib.hid (mCl_not l key la vals lc _ _ (by decide))
         have HM2 := Lib.hid (fun V gg d h1 h2 => HMx.out V gg d ⟨1, key, la, vals, lc⟩ h1 h2)
         have HM1 := Lib.hid (fun V gg d h1 h2 => HMx.out V gg d ⟨2, key, la, vals, lc⟩ h1 h2)
         have HC1 := Lib.hid (fun V (h : Below w.heap.size w V) => cls_one (HA.out.later h) hlt)
         rw [HX.out] at HC1
         rw [HQ.out] at HM2
         generalize mClause l ⟨2, key, la, vals, lc⟩ = q at *
         have HD : Hid (∀ V, Below W0.heap.size W0 V → (fun w' => w'.cell? ⟨g, 0, none⟩ = some (.int .i64 1) ∧ w'.cell? ⟨g, 1, none⟩ = some (strV key) ∧ w'.cell? ⟨g, 2, none⟩ = some (.slice la vals.length lc) ∧ Below W0.heap.size W0 w') V) := Lib.hid (fun V h => ⟨(h.cell (p := ⟨g, 0, none⟩) HLT.out).trans d0, (h.cell (p := ⟨g, 1, none⟩) HLT.out).trans d1, (h.cell (p := ⟨g, 2, none⟩) HLT.out).trans d2, h⟩)
         clear hH0 hB0 hg HQ
         refine wp_region_held_drew (S := (fun w' => w'.cell? ⟨g, 0, none⟩ = some (.int .i64 1) ∧ w'.cell? ⟨g, 1, none⟩ = some (strV key) ∧ w'.cell? ⟨g, 2, none⟩ = some (.slice la vals.length lc) ∧ Below W0.heap.size W0 w')) (by kernel_rfl) (HD.out _ (Below.refl _ _).drew) (fun hHeld => ?_)
         clear d0 d1 d2
         refine wpAnyH_take (i := 0) (v := ?vv10) rfl (by kernel_rfl) (by kernel_rfl) (by kernel_rfl) (fun _ _ _ h => h) (Or.inl ⟨by rfl, ?hy10⟩) hHeld ?rr10
         case hy10 => (intro w' hSw; obtain ⟨g0, g1, g2, g3⟩ := hSw; go_simp; try with_reducible rfl)
         try simp only [Act.put, List.setIfInBounds_toArray, List.set_cons_zero, List.set_cons_succ, List.getElem_toArray, List.getElem_cons_succ, List.getElem_cons_zero]
         refine wpAnyH_take (i := 2) (v := ?vv11) rfl (by kernel_rfl) (by kernel_rfl) (by kernel_rfl) (fun _ _ _ h => h) (Or.inl ⟨by rfl, ?hy11⟩) hHeld ?rr11
         case hy11 => (intro w' hSw; obtain ⟨g0, g1, g2, g3⟩ := hSw; go_simp; try with_reducible rfl)
         try simp only [Act.put, List.setIfInBounds_toArray, List.set_cons_zero, List.set_cons_succ, List.getElem_toArray, List.getElem_cons_succ, List.getElem_cons_zero]
         refine wpAnyH_take (i := 4) (v := ?vv12) rfl (by kernel_rfl) (by kernel_rfl) (by kernel_rfl) (fun _ _ _ h => h) (Or.inl ⟨by rfl, ?hy12⟩) hHeld ?rr12
         case hy12 => (intro w' hSw; obtain ⟨g0, g1, g2, g3⟩ := hSw; go_simp; try with_reducible rfl)
         try simp only [Act.put, List.setIfInBounds_toArray, List.set_cons_zero, List.set_cons_succ, List.getElem_toArray, List.getElem_cons_succ, List.getElem_cons_zero]
         refine wpAnyH_take (i := 5) (v := ?vv13) rfl (by kernel_rfl) (by kernel_rfl) (by kernel_rfl) (fun _ _ _ h => h) (Or.inl ⟨by rfl, ?hy13⟩) hHeld ?rr13
         case hy13 => (intro w' hSw; obtain ⟨g0, g1, g2, g3⟩ := hSw; go_simp; try with_reducible rfl)
         try simp only [Act.put, List.setIfInBounds_toArray, List.set_cons_zero, List.set_cons_succ, List.getElem_toArray, List.getElem_cons_succ, List.getElem_cons_zero]
         refine wpAnyH_take (i := 6) (v := ?vv14) rfl (by kernel_rfl) (by kernel_rfl) (by kernel_rfl) (fun _ _ _ h => h) (Or.inl ⟨by rfl, ?hy14⟩) hHeld ?rr14
         case hy14 => (intro w' hSw; obtain ⟨g0, g1, g2, g3⟩ := hSw; go_simp; try with_reducible rfl)
         try simp only [Act.put, List.setIfInBounds_toArray, List.set_cons_zero, List.set_cons_succ, List.getElem_toArray, List.getElem_cons_succ, List.getElem_cons_zero]
         refine wpAnyH_take (i := 7) (v := ?vv15) rfl (by kernel_rfl) (by kernel_rfl) (by kernel_rfl) (fun _ _ _ h => h) (Or.inl ⟨by rfl, ?hy15⟩) hHeld ?rr15
         case hy15 => (intro w' hSw; obtain ⟨g0, g1, g2, g3⟩ := hSw; go_simp; try with_reducible rfl)
         try simp only [Act.put, List.setIfInBounds_toArray, List.set_cons_zero, List.set_cons_succ, List.getElem_toArray, List.getElem_cons_succ, List.getElem_cons_zero]
         refine wpAnyH_take (i := 8) (v := ?vv16) rfl (by kernel_rfl) (by kernel_rfl) (by kernel_rfl) (fun _ _ _ h => h) (Or.inl ⟨by rfl, ?hy16⟩) hHeld ?rr16
         case hy16 => (intro w' hSw; obtain ⟨g0, g1, g2, g3⟩ := hSw; go_simp; try with_reducible rfl)
         try simp only [Act.put, List.setIfInBounds_toArray, List.set_cons_zero, List.set_cons_succ, List.getElem_toArray, List.getElem_cons_succ, List.getElem_cons_zero]
         refine wpAnyH_take (i := 9) (v := ?vv17) rfl (by kernel_rfl) (by kernel_rfl) (by kernel_rfl) (fun _ _ _ h => h) (Or.inl ⟨by rfl, ?hy17⟩) hHeld ?rr17
         case hy17 => (intro w' hSw; obtain ⟨g0, g1, g2, g3⟩ := hSw; go_simp; try with_reducible rfl)
         try simp only [Act.put, List.setIfInBounds_toArray, List.set_cons_zero, List.set_cons_succ, List.getElem_toArray, List.getElem_cons_succ, List.getElem_cons_zero]
         refine wpAnyH_ready (rs := [1]) (by kernel_rfl) (by simp) ?_
         refine AllReadyH.cons rfl (fun K hK => ?_) AllReadyH.nil
         go_simp
         have hB1 : Below W0.heap.size W0 (W0.alloc (.cells #[.int .i64 1, strV key, .slice la vals.length lc] 42)).drew := (below_alloc _ _).drew
         have hH1 : (W0.alloc (.cells #[.int .i64 1, strV key, .slice la vals.length lc] 42)).drew.heap[W0.heap.size]? = _ := heap_new W0 (.cells #[.int .i64 1, strV key, .slice la vals.length lc] 42)
         generalize (W0.alloc (.cells #[.int .i64 1, strV key, .slice la vals.length lc] 42)).drew = W1 at *
         refine hK.out _ _ (HD.out _ hB1) (fun hHeld2 => ?_)
         clear hK K hHeld
         have hHeld := hHeld2
         clear hHeld2
         try simp only [Act.put, List.setIfInBounds_toArray, List.set_cons_zero, List.set_cons_succ, List.getElem_toArray, List.getElem_cons_succ, List.getElem_cons_zero]
         refine wpAnyH_ready (rs := [3]) (by kernel_rfl) (by simp) ?_
         refine AllReadyH.cons rfl (fun K hK => ?_) AllReadyH.nil
         go_simp
         go_at_call 22
         refine Calls.mono (by with_reducible exact HM2.out _ _ _ (HB0.out.trans (hB1.mono HB0.out.size)) (cls_new hH1 (HFx.out.later hB1))) ?_
         rintro e W2 ⟨rfl, hb⟩
         have hB2 := hB1.trans (hb.mono hB1.size)
         clear hb hB1 hH1
         go_wp2_with fail
         refine hK.out _ _ (HD.out _ hB2) (fun hHeld2 => ?_)
         clear hK K hHeld
         have hHeld := hHeld2
         clear hHeld2
         try simp only [Act.put, List.setIfInBounds_toArray, List.set_cons_zero, List.set_cons_succ, List.getElem_toArray, List.getElem_cons_succ, List.getElem_cons_zero]
         refine wpAnyH_ready (rs := [10]) (by kernel_rfl) (by simp) ?_
         refine AllReadyH.cons rfl (fun K hK => ?_) AllReadyH.nil
         go_simp
         go_at_call 22
         refine Calls.mono (by with_reducible exact HM1.out _ _ _ (HB0.out.trans (hB2.mono HB0.out.size)) (HC1.out _ (HB0.out.trans (hB2.mono HB0.out.size)))) ?_
         rintro e W3 ⟨rfl, hb⟩
         have hB3 := hB2.trans (hb.mono hB2.size)
         clear hb hB2
         go_wp2_with fail
         refine hK.out _ _ (HD.out _ hB3) (fun hHeld2 => ?_)
         clear hK K hHeld
         have hHeld := hHeld2
         clear hHeld2
         try simp only [Act.put, List.setIfInBounds_toArray, List.set_cons_zero, List.set_cons_succ, List.getElem_toArray, List.getElem_cons_succ, List.getElem_cons_zero]
         refine wpAnyH_take (i := 11) (v := ?vv18) rfl (by kernel_rfl) (by kernel_rfl) (by kernel_rfl) (fun _ _ _ h => h) (Or.inl ⟨by rfl, ?hy18⟩) hHeld ?rr18
         case hy18 => (intro w' hSw; obtain ⟨g0, g1, g2, g3⟩ := hSw; go_simp; try with_reducible rfl)
         try simp only [Act.put, List.setIfInBounds_toArray, List.set_cons_zero, List.set_cons_succ, List.getElem_toArray, List.getElem_cons_succ, List.getElem_cons_zero]
         refine wpAnyH_done (by kernel_rfl) ?_ _
         clear hHeld
         have HB4 := Lib.hid (HB0.out.trans (hB3.mono HB0.out.size))
         clear hB3 HD HM1 HM2 HC1
         go_wp2
         go_roundw
         case rel => exact ⟨k + 1, by omega, by go_num, HB4⟩
         case measure => simp [intOf]; omega
       by_cases h3 : kind = 3
       · subst h3
         go_wp2_with fail
         have hH0 := heap_new wr (.cells #[.int .i64 4, strV key, .slice la vals.length lc] 42)
         have hB0 := HBr.out.alloc HBr.out.size (.cells #[.int .i64 4, strV key, .slice la vals.length lc] 42)
         have HFx := Lib.hid (fit_kind (HF.out.later (below_alloc wr (.cells #[.int .i64 4, strV key, .slice la vals.length lc] 42))) 4)
         have hg : wr.heap.size < (wr.alloc (.cells #[.int .i64 4, strV key, .slice la vals.length lc] 42)).heap.size := by simp
         generalize wr.alloc (.cells #[.int .i64 4, strV key, .slice la vals.length lc] 42) = W0 at *
         generalize wr.heap.size = g at *
         obtain ⟨d0, d1, d2⟩ : W0.cell? ⟨g, 0, none⟩ = some (.int .i64 4) ∧ W0.cell? ⟨g, 1, none⟩ = some (strV key) ∧ W0.cell? ⟨g, 2, none⟩ = some (.slice la vals.length lc) := by have hc := (cells_of_heap hH0).1; exact ⟨hc 0, hc 1, hc 2⟩
         have HB0 := Lib.hid hB0
         have HLT := Lib.hid hg
         have HQ : Hid (mClause l ⟨4, key, la, vals, lc⟩ = !mClause l ⟨3, key, la, vals, lc⟩) := Lib.hid (mCl_not l key la vals lc _ _ (by decide))
         have HM2 := Lib.hid (fun V gg d h1 h2 => HMx.out V gg d ⟨4, key, la, vals, lc⟩ h1 h2)
         have HM1 := Lib.hid (fun V gg d h1 h2 => HMx.out V gg d ⟨3, key, la, vals, lc⟩ h1 h2)
         have HC1 := Lib.hid (fun V (h : Below w.heap.size w V) => cls_one (HA.out.later h) hlt)
         rw [HX.out] at HC1
         rw [HQ.out] at HM2
         generalize mClause l ⟨3, key, la, vals, lc⟩ = q at *
         have HD : Hid (∀ V, Below W0.heap.size W0 V → (fun w' => w'.cell? ⟨g, 0, none⟩ = some (.int .i64 4) ∧ w'.cell? ⟨g, 1, none⟩ = some (strV key) ∧ w'.cell? ⟨g, 2, none⟩ = some (.slice la vals.length lc) ∧ Below W0.heap.size W0 w') V) := Lib.hid (fun V h => ⟨(h.cell (p := ⟨g, 0, none⟩) HLT.out).trans d0, (h.cell (p := ⟨g, 1, none⟩) HLT.out).trans d1, (h.cell (p := ⟨g, 2, none⟩) HLT.out).trans d2, h⟩)
         clear hH0 hB0 hg HQ
         refine wp_region_held_drew (S := (fun w' => w'.cell? ⟨g, 0, none⟩ = some (.int .i64 4) ∧ w'.cell? ⟨g, 1, none⟩ = some (strV key) ∧ w'.cell? ⟨g, 2, none⟩ = some (.slice la vals.length lc) ∧ Below W0.heap.size W0 w')) (by kernel_rfl) (HD.out _ (Below.refl _ _).drew) (fun hHeld => ?_)
         clear d0 d1 d2
         refine wpAnyH_take (i := 0) (v := ?vv19) rfl (by kernel_rfl) (by kernel_rfl) (by kernel_rfl) (fun _ _ _ h => h) (Or.inl ⟨by rfl, ?hy19⟩) hHeld ?rr19
         case hy19 => (intro w' hSw; obtain ⟨g0, g1, g2, g3⟩ := hSw; go_simp; try with_reducible rfl)
         try simp only [Act.put, List.setIfInBounds_toArray, List.set_cons_zero, List.set_cons_succ, List.getElem_toArray, List.getElem_cons_succ, List.getElem_cons_zero]
         refine wpAnyH_take (i := 2) (v := ?vv20) rfl (by kernel_rfl) (by kernel_rfl) (by kernel_rfl) (fun _ _ _ h => h) (Or.inl ⟨by rfl, ?hy20⟩) hHeld ?rr20
         case hy20 => (intro w' hSw; obtain ⟨g0, g1, g2, g3⟩ := hSw; go_simp; try with_reducible rfl)
         try simp only [Act.put, List.setIfInBounds_toArray, List.set_cons_zero, List.set_cons_succ, List.getElem_toArray, List.getElem_cons_succ, List.getElem_cons_zero]
         refine wpAnyH_take (i := 4) (v := ?vv21) rfl (by kernel_rfl) (by kernel_rfl) (by kernel_rfl) (fun _ _ _ h => h) (Or.inl ⟨by rfl, ?hy21⟩) hHeld ?rr21
         case hy21 => (intro w' hSw; obtain ⟨g0, g1, g2, g3⟩ := hSw; go_simp; try with_reducible rfl)
         try simp only [Act.put, List.setIfInBounds_toArray, List.set_cons_zero, List.set_cons_succ, List.getElem_toArray, List.getElem_cons_succ, List.getElem_cons_zero]
         refine wpAnyH_take (i := 5) (v := ?vv22) rfl (by kernel_rfl) (by kernel_rfl) (by kernel_rfl) (fun _ _ _ h => h) (Or.inl ⟨by rfl, ?hy22⟩) hHeld ?rr22
         case hy22 => (intro w' hSw; obtain ⟨g0, g1, g2, g3⟩ := hSw; go_simp; try with_reducible rfl)
         try simp only [Act.put, List.setIfInBounds_toArray, List.set_cons_zero, List.set_cons_succ, List.getElem_toArray, List.getElem_cons_succ, List.getElem_cons_zero]
         refine wpAnyH_take (i := 6) (v := ?vv23) rfl (by kernel_rfl) (by kernel_rfl) (by kernel_rfl) (fun _ _ _ h => h) (Or.inl ⟨by rfl, ?hy23⟩) hHeld ?rr23
         case hy23 => (intro w' hSw; obtain ⟨g0, g1, g2, g3⟩ := hSw; go_simp; try with_reducible rfl)
         try simp only [Act.put, List.setIfInBounds_toArray, List.set_cons_zero, List.set_cons_succ, List.getElem_toArray, List.getElem_cons_succ, List.getElem_cons_zero]
         refine wpAnyH_take (i := 7) (v := ?vv24) rfl (by kernel_rfl) (by kernel_rfl) (by kernel_rfl) (fun _ _ _ h => h) (Or.inl ⟨by rfl, ?hy24⟩) hHeld ?rr24
         case hy24 => (intro w' hSw; obtain ⟨g0, g1, g2, g3⟩ := hSw; go_simp; try with_reducible rfl)
         try simp only [Act.put, List.setIfInBounds_toArray, List.set_cons_zero, List.set_cons_succ, List.getElem_toArray, List.getElem_cons_succ, List.getElem_cons_zero]
         refine wpAnyH_take (i := 8) (v := ?vv25) rfl (by kernel_rfl) (by kernel_rfl) (by kernel_rfl) (fun _ _ _ h => h) (Or.inl ⟨by rfl, ?hy25⟩) hHeld ?rr25
         case hy25 => (intro w' hSw; obtain ⟨g0, g1, g2, g3⟩ := hSw; go_simp; try with_reducible rfl)
         try simp only [Act.put, List.setIfInBounds_toArray, List.set_cons_zero, List.set_cons_succ, List.getElem_toArray, List.getElem_cons_succ, List.getElem_cons_zero]
         refine wpAnyH_take (i := 9) (v := ?vv26) rfl (by kernel_rfl) (by kernel_rfl) (by kernel_rfl) (fun _ _ _ h => h) (Or.inl ⟨by rfl, ?hy26⟩) hHeld ?rr26
         case hy26 => (intro w' hSw; obtain ⟨g0, g1, g2, g3⟩ := hSw; go_simp; try with_reducible rfl)
         try simp only [Act.put, List.setIfInBounds_toArray, List.set_cons_zero, List.set_cons_succ, List.getElem_toArray, List.getElem_cons_succ, List.getElem_cons_zero]
         refine wpAnyH_ready (rs := [1]) (by kernel_rfl) (by simp) ?_
         refine AllReadyH.cons rfl (fun K hK => ?_) AllReadyH.nil
         go_simp
         have hB1 : Below W0.heap.size W0 (W0.alloc (.cells #[.int .i64 4, strV key, .slice la vals.length lc] 42)).drew := (below_alloc _ _).drew
         have hH1 : (W0.alloc (.cells #[.int .i64 4, strV key, .slice la vals.length lc] 42)).drew.heap[W0.heap.size]? = _ := heap_new W0 (.cells #[.int .i64 4, strV key, .slice la vals.length lc] 42)
         generalize (W0.alloc (.cells #[.int .i64 4, strV key, .slice la vals.length lc] 42)).drew = W1 at *
         refine hK.out _ _ (HD.out _ hB1) (fun hHeld2 => ?_)
         clear hK K hHeld
         have hHeld := hHeld2
         clear hHeld2
         try simp only [Act.put, List.setIfInBounds_toArray, List.set_cons_zero, List.set_cons_succ, List.getElem_toArray, List.getElem_cons_succ, List.getElem_cons_zero]
         refine wpAnyH_ready (rs := [3]) (by kernel_rfl) (by simp) ?_
         refine AllReadyH.cons rfl (fun K hK => ?_) AllReadyH.nil
         go_simp
         go_at_call 22
         refine Calls.mono (by with_reducible exact HM2.out _ _ _ (HB0.out.trans (hB1.mono HB0.out.size)) (cls_new hH1 (HFx.out.later hB1))) ?_
         rintro e W2 ⟨rfl, hb⟩
         have hB2 := hB1.trans (hb.mono hB1.size)
         clear hb hB1 hH1
         go_wp2_with fail
         refine hK.out _ _ (HD.out _ hB2) (fun hHeld2 => ?_)
         clear hK K hHeld
         have hHeld := hHeld2
         clear hHeld2
         try simp only [Act.put, List.setIfInBounds_toArray, List.set_cons_zero, List.set_cons_succ, List.getElem_toArray, List.getElem_cons_succ, List.getElem_cons_zero]
         refine wpAnyH_ready (rs := [10]) (by kernel_rfl) (by simp) ?_
         refine AllReadyH.cons rfl (fun K hK => ?_) AllReadyH.nil
         go_simp
         go_at_call 22
         refine Calls.mono (by with_reducible exact HM1.out _ _ _ (HB0.out.trans (hB2.mono HB0.out.size)) (HC1.out _ (HB0.out.trans (hB2.mono HB0.out.size)))) ?_
         rintro e W3 ⟨rfl, hb⟩
         have hB3 := hB2.trans (hb.mono hB2.size)
         clear hb hB2
         go_wp2_with fail
         refine hK.out _ _ (HD.out _ hB3) (fun hHeld2 => ?_)
         clear hK K hHeld
         have hHeld := hHeld2
         clear hHeld2
         try simp only [Act.put, List.setIfInBounds_toArray, List.set_cons_zero, List.set_cons_succ, List.getElem_toArray, List.getElem_cons_succ, List.getElem_cons_zero]
         refine wpAnyH_take (i := 11) (v := ?vv27) rfl (by kernel_rfl) (by kernel_rfl) (by kernel_rfl) (fun _ _ _ h => h) (Or.inl ⟨by rfl, ?hy27⟩) hHeld ?rr27
         case hy27 => (intro w' hSw; obtain ⟨g0, g1, g2, g3⟩ := hSw; go_simp; try with_reducible rfl)
         try simp only [Act.put, List.setIfInBounds_toArray, List.set_cons_zero, List.set_cons_succ, List.getElem_toArray, List.getElem_cons_succ, List.getElem_cons_zero]
         refine wpAnyH_done (by kernel_rfl) ?_ _
         clear hHeld
         have HB4 := Lib.hid (HB0.out.trans (hB3.mono HB0.out.size))
         clear hB3 HD HM1 HM2 HC1
         go_wp2
         go_roundw
         case rel => exact ⟨k + 1, by omega, by go_num, HB4⟩
         case measure => simp [intOf]; omega
       by_cases h4 : kind = 4
       · subst h4
         go_wp2_with fail
         have hH0 := heap_new wr (.cells #[.int .i64 3, strV key, .slice la vals.length lc] 42)
         have hB0 := HBr.out.alloc HBr.out.size (.cells #[.int .i64 3, strV key, .slice la vals.length lc] 42)
         have HFx := Lib.hid (fit_kind (HF.out.later (below_alloc wr (.cells #[.int .i64 3, strV key, .slice la vals.length lc] 42))) 3)
         have hg : wr.heap.size < (wr.alloc (.cells #[.int .i64 3, strV key, .slice la vals.length lc] 42)).heap.size := by simp
         generalize wr.alloc (.cells #[.int .i64 3, strV key, .slice la vals.length lc] 42) = W0 at *
         generalize wr.heap.size = g at *
         obtain ⟨d0, d1, d2⟩ : W0.cell? ⟨g, 0, none⟩ = some (.int .i64 3) ∧ W0.cell? ⟨g, 1, none⟩ = some (strV key) ∧ W0.cell? ⟨g, 2, none⟩ = some (.slice la vals.length lc) := by have hc := (cells_of_heap hH0).1; exact ⟨hc 0, hc 1, hc 2⟩
         have HB0 := Lib.hid hB0
         have HLT := Lib.hid hg
         have HQ : Hid (mClause l ⟨3, key, la, vals, lc⟩ = !mClause l ⟨4, key, la, vals, lc⟩) := Lib.hid (mCl_not l key la vals lc _ _ (by decide))
         have HM2 := Lib.hid (fun V gg d h1 h2 => HMx.out V gg d ⟨3, key, la, vals, lc⟩ h1 h2)
         have HM1 := Lib.hid (fun V gg d h1 h2 => HMx.out V gg d ⟨4, key, la, vals, lc⟩ h1 h2)
         have HC1 := Lib.hid (fun V (h : Below w.heap.size w V) => cls_one (HA.out.later h) hlt)
         rw [HX.out] at HC1
         rw [HQ.out] at HM2
         generalize mClause l ⟨4, key, la, vals, lc⟩ = q at *
         have HD : Hid (∀ V, Below W0.heap.size W0 V → (fun w' => w'.cell? ⟨g, 0, none⟩ = some (.int .i64 3) ∧ w'.cell? ⟨g, 1, none⟩ = some (strV key) ∧ w'.cell? ⟨g, 2, none⟩ = some (.slice la vals.length lc) ∧ Below W0.heap.size W0 w') V) := Lib.hid (fun V h => ⟨(h.cell (p := ⟨g, 0, none⟩) HLT.out).trans d0, (h.cell (p := ⟨g, 1, none⟩) HLT.out).trans d1, (h.cell (p := ⟨g, 2, none⟩) HLT.out).trans d2, h⟩)
         clear hH0 hB0 hg HQ
         refine wp_region_held_drew (S := (fun w' => w'.cell? ⟨g, 0, none⟩ = some (.int .i64 3) ∧ w'.cell? ⟨g, 1, none⟩ = some (strV key) ∧ w'.cell? ⟨g, 2, none⟩ = some (.slice la vals.length lc) ∧ Below W0.heap.size W0 w')) (by kernel_rfl) (HD.out _ (Below.refl _ _).drew) (fun hHeld => ?_)
         clear d0 d1 d2
         refine wpAnyH_take (i := 0) (v := ?vv28) rfl (by kernel_rfl) (by kernel_rfl) (by kernel_rfl) (fun _ _ _ h => h) (Or.inl ⟨by rfl, ?hy28⟩) hHeld ?rr28
         case hy28 => (intro w' hSw; obtain ⟨g0, g1, g2, g3⟩ := hSw; go_simp; try with_reducible rfl)
         try simp only [Act.put, List.setIfInBounds_toArray, List.set_cons_zero, List.set_cons_succ, List.getElem_toArray, List.getElem_cons_succ, List.getElem_cons_zero]
         refine wpAnyH_take (i := 2) (v := ?vv29) rfl (by kernel_rfl) (by kernel_rfl) (by kernel_rfl) (fun _ _ _ h => h) (Or.inl ⟨by rfl, ?hy29⟩) hHeld ?rr29
         case hy29 => (intro w' hSw; obtain ⟨g0, g1, g2, g3⟩ := hSw; go_simp; try with_reducible rfl)
         try simp only [Act.put, List.setIfInBounds_toArray, List.set_cons_zero, List.set_cons_succ, List.getElem_toArray, List.getElem_cons_succ, List.getElem_cons_zero]
         refine wpAnyH_take (i := 4) (v := ?vv30) rfl (by kernel_rfl) (by kernel_rfl) (by kernel_rfl) (fun _ _ _ h => h) (Or.inl ⟨by rfl, ?hy30⟩) hHeld ?rr30
         case hy30 => (intro w' hSw; obtain ⟨g0, g1, g2, g3⟩ := hSw; go_simp; try with_reducible rfl)
         try simp only [Act.put, List.setIfInBounds_toArray, List.set_cons_zero, List.set_cons_succ, List.getElem_toArray, List.getElem_cons_succ, List.getElem_cons_zero]
         refine wpAnyH_take (i := 5) (v := ?vv31) rfl (by kernel_rfl) (by kernel_rfl) (by kernel_rfl) (fun _ _ _ h => h) (Or.inl ⟨by rfl, ?hy31⟩) hHeld ?rr31
         case hy31 => (intro w' hSw; obtain ⟨g0, g1, g2, g3⟩ := hSw; go_simp; try with_reducible rfl)
         try simp only [Act.put, List.setIfInBounds_toArray, List.set_cons_zero, List.set_cons_succ, List.getElem_toArray, List.getElem_cons_succ, List.getElem_cons_zero]
         refine wpAnyH_take (i := 6) (v := ?vv32) rfl (by kernel_rfl) (by kernel_rfl) (by kernel_rfl) (fun _ _ _ h => h) (Or.inl ⟨by rfl, ?hy32⟩) hHeld ?rr32
         case hy32 => (intro w' hSw; obtain ⟨g0, g1, g2, g3⟩ := hSw; go_simp; try with_reducible rfl)
         try simp only [Act.put, List.setIfInBounds_toArray, List.set_cons_zero, List.set_cons_succ, List.getElem_toArray, List.getElem_cons_succ, List.getElem_cons_zero]
         refine wpAnyH_take (i := 7) (v := ?vv33) rfl (by kernel_rfl) (by kernel_rfl) (by kernel_rfl) (fun _ _ _ h => h) (Or.inl ⟨by rfl, ?hy33⟩) hHeld ?rr33
         case hy33 => (intro w' hSw; obtain ⟨g0, g1, g2, g3⟩ := hSw; go_simp; try with_reducible rfl)
         try simp only [Act.put, List.setIfInBounds_toArray, List.set_cons_zero, List.set_cons_succ, List.getElem_toArray, List.getElem_cons_succ, List.getElem_cons_zero]
         refine wpAnyH_take (i := 8) (v := ?vv34) rfl (by kernel_rfl) (by kernel_rfl) (by kernel_rfl) (fun _ _ _ h => h) (Or.inl ⟨by rfl, ?hy34⟩) hHeld ?rr34
         case hy34 => (intro w' hSw; obtain ⟨g0, g1, g2, g3⟩ := hSw; go_simp; try with_reducible rfl)
         try simp only [Act.put, List.setIfInBounds_toArray, List.set_cons_zero, List.set_cons_succ, List.getElem_toArray, List.getElem_cons_succ, List.getElem_cons_zero]
         refine wpAnyH_take (i := 9) (v := ?vv35) rfl (by kernel_rfl) (by kernel_rfl) (by kernel_rfl) (fun _ _ _ h => h) (Or.inl ⟨by rfl, ?hy35⟩) hHeld ?rr35
         case hy35 => (intro w' hSw; obtain ⟨g0, g1, g2, g3⟩ := hSw; go_simp; try with_reducible rfl)
         try simp only [Act.put, List.setIfInBounds_toArray, List.set_cons_zero, List.set_cons_succ, List.getElem_toArray, List.getElem_cons_succ, List.getElem_cons_zero]
         refine wpAnyH_ready (rs := [1]) (by kernel_rfl) (by simp) ?_
         refine AllReadyH.cons rfl (fun K hK => ?_) AllReadyH.nil
         go_simp
         have hB1 : Below W0.heap.size W0 (W0.alloc (.cells #[.int .i64 3, strV key, .slice la vals.length lc] 42)).drew := (below_alloc _ _).drew
         have hH1 : (W0.alloc (.cells #[.int .i64 3, strV key, .slice la vals.length lc] 42)).drew.heap[W0.heap.size]? = _ := heap_new W0 (.cells #[.int .i64 3, strV key, .slice la vals.length lc] 42)
         generalize (W0.alloc (.cells #[.int .i64 3, strV key, .slice la vals.length lc] 42)).drew = W1 at *
         refine hK.out _ _ (HD.out _ hB1) (fun hHeld2 => ?_)
         clear hK K hHeld
         have hHeld := hHeld2
         clear hHeld2
         try simp only [Act.put, List.setIfInBounds_toArray, List.set_cons_zero, List.set_cons_succ, List.getElem_toArray, List.getElem_cons_succ, List.getElem_cons_zero]
         refine wpAnyH_ready (rs := [3]) (by kernel_rfl) (by simp) ?_
         refine AllReadyH.cons rfl (fun K hK => ?_) AllReadyH.nil
         go_simp
         go_at_call 22
         refine Calls.mono (by with_reducible exact HM2.out _ _ _ (HB0.out.trans (hB1.mono HB0.out.size)) (cls_new hH1 (HFx.out.later hB1))) ?_
         rintro e W2 ⟨rfl, hb⟩
         have hB2 := hB1.trans (hb.mono hB1.size)
         clear hb hB1 hH1
         go_wp2_with fail
         refine hK.out _ _ (HD.out _ hB2) (fun hHeld2 => ?_)
         clear hK K hHeld
         have hHeld := hHeld2
         clear hHeld2
         try simp only [Act.put, List.setIfInBounds_toArray, List.set_cons_zero, List.set_cons_succ, List.getElem_toArray, List.getElem_cons_succ, List.getElem_cons_zero]
         refine wpAnyH_ready (rs := [10]) (by kernel_rfl) (by simp) ?_
         refine AllReadyH.cons rfl (fun K hK => ?_) AllReadyH.nil
         go_simp
         go_at_call 22
         refine Calls.mono (by with_reducible exact HM1.out _ _ _ (HB0.out.trans (hB2.mono HB0.out.size)) (HC1.out _ (HB0.out.trans (hB2.mono HB0.out.size)))) ?_
         rintro e W3 ⟨rfl, hb⟩
         have hB3 := hB2.trans (hb.mono hB2.size)
         clear hb hB2
         go_wp2_with fail
         refine hK.out _ _ (HD.out _ hB3) (fun hHeld2 => ?_)
         clear hK K hHeld
         have hHeld := hHeld2
         clear hHeld2
         try simp only [Act.put, List.setIfInBounds_toArray, List.set_cons_zero, List.set_cons_succ, List.getElem_toArray, List.getElem_cons_succ, List.getElem_cons_zero]
         refine wpAnyH_take (i := 11) (v := ?vv36) rfl (by kernel_rfl) (by kernel_rfl) (by kernel_rfl) (fun _ _ _ h => h) (Or.inl ⟨by rfl, ?hy36⟩) hHeld ?rr36
         case hy36 => (intro w' hSw; obtain ⟨g0, g1, g2, g3⟩ := hSw; go_simp; try with_reducible rfl)
         try simp only [Act.put, List.setIfInBounds_toArray, List.set_cons_zero, List.set_cons_succ, List.getElem_toArray, List.getElem_cons_succ, List.getElem_cons_zero]
         refine wpAnyH_done (by kernel_rfl) ?_ _
         clear hHeld
         have HB4 := Lib.hid (HB0.out.trans (hB3.mono HB0.out.size))
         clear hB3 HD HM1 HM2 HC1
         go_wp2
         go_roundw
         case rel => exact ⟨k + 1, by omega, by go_num, HB4⟩
         case measure => simp [intOf]; omega
       have e1 : (kind == 1) = false := by simpa using h1
       have e2 : (kind == 2) = false := by simpa using h2
       have e3 : (kind == 3) = false := by simpa using h3
       have e4 : (kind == 4) = false := by simpa using h4
       clear hk1 hk63 hkc hkn hck hwr HKk hkd HX HF HMx HLi
       have HB4 := Lib.hid (fun o => HBr.out.alloc HBr.out.size o)
       go_wp2
       go_roundw
       case rel => exact ⟨k + 1, by omega, by go_num, Lib.hid (HB4.out _)⟩
       case measure => simp [intOf]; omega
     · obtain rfl : k = a.length := by omega
       go_wp2
       go_ret
       exact ⟨rfl, HBr.out⟩
  case false.true =>
   simp only [e0, e1, e2, e3] at HMab HMba
   clear e0 e1 e2 e3
   go_enter Tryz.func5, Tryz.ntmps5
   go_wp2_with (first
     | (at_builtin; refine wpList_append_k _ rfl (.tmp 11) (.tmp 12) 33 rfl 42 i0 (.agg #[.int .i64 0, .string ⟨#[]⟩, .slice none 0 0]) 3 48 Tryz.underlying33 hinfo hz0 hz1 hz2 rfl (by decide) w.heap.size _ 0 [] rfl (World.ownsRow_made w #[] 0 (Nat.le_refl _) (Nat.zero_le _) rfl) A a.length ca (a.flatMap clC) rfl HLa.out (cls_src (HA.out.later HW0.out)) (clCs_one a) (by unfold maxLen; omega) (by omega) (by simp) ?_; intro A1 c1 w1 hown1 hgrow1 _; simp only [Nat.zero_add, List.nil_append] at hown1; have HO1 := Lib.hid hown1; have HB1 := Lib.hid (HW0.out.grown hgrow1 (by simp) (fun k e => by injection e with e; exact Nat.le_of_eq e)); clear hown1 hgrow1)
     | (at_builtin; refine wpList_append_k _ rfl (.tmp 13) (.tmp 14) 33 rfl 42 i0 (.agg #[.int .i64 0, .string ⟨#[]⟩, .slice none 0 0]) 3 48 Tryz.underlying33 hinfo hz0 hz1 hz2 rfl (by decide) w.heap.size _ a.length (a.flatMap clC) rfl HO1.out B b.length cb (b.flatMap clC) rfl HLb.out (cls_src (HB.out.later HB1.out)) (clCs_one b) (by unfold maxLen; omega) (by omega) (by have := HB1.out.size; omega) ?_; intro A2 c2 w2 hown2 hgrow2 _; have HB2 := Lib.hid (HB1.out.grown hgrow2 HB1.out.size (fun k e => (HO1.out.lt k e).1)); have HO2 := Lib.hid hown2; clear hown2 hgrow2; have HC2 := Lib.hid (both_cls HO2.out (fun c hc => cls_fit (HA.out.later HB2.out) c hc) (fun c hc => cls_fit (HB.out.later HB2.out) c hc)); have HW2 := Lib.hid (below_alloc w2 (.cells #[] 42)); have HW3 := Lib.hid (HB2.out.alloc HB2.out.size (.cells #[] 42)))
     | (at_builtin; refine wpList_append_k _ rfl (.tmp 16) (.tmp 17) 33 rfl 42 i0 (.agg #[.int .i64 0, .string ⟨#[]⟩, .slice none 0 0]) 3 48 Tryz.underlying33 hinfo hz0 hz1 hz2 rfl (by decide) w2.heap.size _ 0 [] rfl (World.ownsRow_made w2 #[] 0 (Nat.le_refl _) (Nat.zero_le _) rfl) B b.length cb (b.flatMap clC) rfl HLb.out (cls_src (HB.out.later HW3.out)) (clCs_one b) (by unfold maxLen; omega) (by omega) (by simp) ?_; intro A3 c3 w3 hown3 hgrow3 _; simp only [Nat.zero_add, List.nil_append] at hown3; have HO3 := Lib.hid hown3; have HB3 := Lib.hid (HW2.out.grown hgrow3 (by simp) (fun k e => by injection e with e; exact Nat.le_of_eq e)); clear hown3 hgrow3)
     | (at_builtin; refine wpList_append_k _ rfl (.tmp 18) (.tmp 19) 33 rfl 42 i0 (.agg #[.int .i64 0, .string ⟨#[]⟩, .slice none 0 0]) 3 48 Tryz.underlying33 hinfo hz0 hz1 hz2 rfl (by decide) w2.heap.size _ b.length (b.flatMap clC) rfl HO3.out A a.length ca (a.flatMap clC) rfl HLa.out (cls_src (HA.out.later (HB2.out.trans (HB3.out.mono HB2.out.size)))) (clCs_one a) (by unfold maxLen; omega) (by omega) (by have := HB3.out.size; omega) ?_; intro A4 c4 w4 hown4 hgrow4 _; have HB4 := Lib.hid (HB3.out.grown hgrow4 HB3.out.size (fun k e => (HO3.out.lt k e).1)); have HBw := Lib.hid (HB2.out.trans (HB4.out.mono HB2.out.size)); have HO4 := Lib.hid hown4; clear hown4 hgrow4; have HC4 := Lib.hid (both_cls HO4.out (fun c hc => cls_fit (HB.out.later HBw.out) c hc) (fun c hc => cls_fit (HA.out.later HBw.out) c hc)); have HC24 := Lib.hid (HC2.out.later HB4.out))
     | (go_at_call 12; refine Calls.mono (by with_reducible exact HLi.out _ HBw.out) ?_; rintro e w5 ⟨rfl, hb⟩; have HBw5 := Lib.hid (HBw.out.trans (hb.mono HBw.out.size)); have HC45 := Lib.hid (HC4.out.later hb); have HC25 := Lib.hid (HC24.out.later hb); clear hb)
     | (go_at_call 22; refine Calls.mono (by with_reducible exact HMab.out _ A2 c2 HBw5.out HC25.out) ?_; rintro e w6 ⟨rfl, hb⟩; have HBw6 := Lib.hid (HBw5.out.trans (hb.mono HBw5.out.size)); have HC46 := Lib.hid (HC45.out.later hb); have HC26 := Lib.hid (HC25.out.later hb); clear hb HC45 HC25)
     | (go_at_call 22; refine Calls.mono (by with_reducible exact HMa.out _ HBw6.out) ?_; rintro e w7 ⟨rfl, hb⟩; have HBw7 := Lib.hid (HBw6.out.trans (hb.mono HBw6.out.size)); have HC47 := Lib.hid (HC46.out.later hb); have HC27 := Lib.hid (HC26.out.later hb); clear hb)
     | (go_at_call 22; refine Calls.mono (by with_reducible exact HMb.out _ HBw7.out) ?_; rintro e w8 ⟨rfl, hb⟩; have HBw8 := Lib.hid (HBw7.out.trans (hb.mono HBw7.out.size)); have HC48 := Lib.hid (HC47.out.later hb); have HC28 := Lib.hid (HC27.out.later hb); clear hb)
     | (go_at_call 22; (first | refine Calls.mono (by with_reducible exact HMab.out _ A2 c2 HBw8.out HC28.out) ?_ | refine Calls.mono (by with_reducible exact HMab.out _ A2 c2 HBw7.out HC27.out) ?_); rintro e w9 ⟨rfl, hb⟩; (first | have HBw9 := Lib.hid (HBw8.out.trans (hb.mono HBw8.out.size)) | have HBw9 := Lib.hid (HBw7.out.trans (hb.mono HBw7.out.size))); (first | have HC49 := Lib.hid (HC48.out.later hb) | have HC49 := Lib.hid (HC47.out.later hb)); clear hb)
     | (go_at_call 22; refine Calls.mono (by with_reducible exact HMba.out _ A4 c4 HBw9.out HC49.out) ?_; rintro e w10 ⟨rfl, hb⟩; have HBx := Lib.hid (HBw9.out.trans (hb.mono HBw9.out.size)); clear hb))
   clear HMab HMba HMa HMb HO1 HO2 HO3 HO4 HB1 HB2 HB3 HB4
   go_loopw [9, 10] (fun i p wr => ∃ k : Nat, k ≤ a.length ∧ i = .int .i64 (k : Int) ∧ Hid (Below w.heap.size w wr)) (fun i _ _ => a.length - (intOf i).toNat)
   case atStart => exact ⟨0, Nat.zero_le _, rfl, HBx⟩
   case round =>
     obtain ⟨k, hkl, rfl, HBr⟩ := hrel
     by_cases hlt : k < a.length
     · have hlt' : (k : Int) < (a.length : Int) := by omega
       have hk0 : (0 : Int) ≤ (k : Int) := by omega
       obtain ⟨b', o', rfl, c0', c1', c2', hfit⟩ := (HA.out.later HBr.out) k hlt
       have HKk := Lib.hid (HK.out a[k] (List.getElem_mem _))
       have HF := Lib.hid hfit
       clear hfit
       generalize hx : a[k] = x at *
       have HX := Lib.hid hx
       clear hx
       obtain ⟨kind, key, la, vals, lc⟩ := x
       simp only at c0' c1' c2' HKk
       have hkd := HKk.out
       have hk1 : (0 : Int) ≤ (k : Int) + 1 := by omega
       have hk63 : (k : Int) + 1 ≤ 9223372036854775807 := by omega
       have hkc : (k : Int) + 1 ≤ (ca : Int) := by omega
       have hkn : ((k : Int) + 1).toNat = k + 1 := by omega
       have hck : ¬ ca = k := by omega
       have hwr : IntKind.i64.wrap ((k : Int) + 1) = (k : Int) + 1 := by rw [IntKind.wrap_i64]; omega
       by_cases h1 : kind = 1
       · subst h1
         go_wp2_with fail
         have hH0 := heap_new wr (.cells #[.int .i64 2, strV key, .slice la vals.length lc] 42)
         have hB0 := HBr.out.alloc HBr.out.size (.cells #[.int .i64 2, strV key, .slice la vals.length lc] 42)
         have HFx := Lib.hid (fit_kind (HF.out.later (below_alloc wr (.cells #[.int .i64 2, strV key, .slice la vals.length lc] 42))) 2)
         have hg : wr.heap.size < (wr.alloc (.cells #[.int .i64 2, strV key, .slice la vals.length lc] 42)).heap.size := by simp
         generalize wr.alloc (.cells #[.int .i64 2, strV key, .slice la vals.length lc] 42) = W0 at *
         generalize wr.heap.size = g at *
         obtain ⟨d0, d1, d2⟩ : W0.cell? ⟨g, 0, none⟩ = some (.int .i64 2) ∧ W0.cell? ⟨g, 1, none⟩ = some (strV key) ∧ W0.cell? ⟨g, 2, none⟩ = some (.slice la vals.length lc) := by have hc := (cells_of_heap hH0).1; exact ⟨hc 0, hc 1, hc 2⟩
         have HB0 := Lib.hid hB0
         have HLT := Lib.hid hg
         have HQ : Hid (mClause l ⟨2, key, la, vals, lc⟩ = !mClause l ⟨1, key, la, vals, lc⟩) := Lib.hid (mCl_not l key la vals lc _ _ (by decide))
         have HM2 := Lib.hid (fun V gg d h1 h2 => HMx.out V gg d ⟨2, key, la, vals, lc⟩ h1 h2)
         have HM1 := Lib.hid (fun V gg d h1 h2 => HMx.out V gg d ⟨1, key, la, vals, lc⟩ h1 h2)
         have HC1 := Lib.hid (fun V (h : Below w.heap.size w V) => cls_one (HA.out.later h) hlt)
         rw [HX.out] at HC1
         rw [HQ.out] at HM2
         generalize mClause l ⟨1, key, la, vals, lc⟩ = q at *
         have HD : Hid (∀ V, Below W0.heap.size W0 V → (fun w' => w'.cell? ⟨g, 0, none⟩ = some (.int .i64 2) ∧ w'.cell? ⟨g, 1, none⟩ = some (strV key) ∧ w'.cell? ⟨g, 2, none⟩ = some (.slice la vals.length lc) ∧ Below W0.heap.size W0 w') V) := Lib.hid (fun V h => ⟨(h.cell (p := ⟨g, 0, none⟩) HLT.out).trans d0, (h.cell (p := ⟨g, 1, none⟩) HLT.out).trans d1, (h.cell (p := ⟨g, 2, none⟩) HLT.out).trans d2, h⟩)
         clear hH0 hB0 hg HQ
         refine wp_region_held_drew (S := (fun w' => w'.cell? ⟨g, 0, none⟩ = some (.int .i64 2) ∧ w'.cell? ⟨g, 1, none⟩ = some (strV key) ∧ w'.cell? ⟨g, 2, none⟩ = some (.slice la vals.length lc) ∧ Below W0.heap.size W0 w')) (by kernel_rfl) (HD.out _ (Below.refl _ _).drew) (fun hHeld => ?_)
         clear d0 d1 d2
         refine wpAnyH_take (i := 0) (v := ?vv37) rfl (by kernel_rfl) (by kernel_rfl) (by kernel_rfl) (fun _ _ _ h => h) (Or.inl ⟨by rfl, ?hy37⟩) hHeld ?rr37
         case hy37 => (intro w' hSw; obtain ⟨g0, g1, g2, g3⟩ := hSw; go_simp; try with_reducible rfl)
         try simp only [Act.put, List.setIfInBounds_toArray, List.set_cons_zero, List.set_cons_succ, List.getElem_toArray, List.getElem_cons_succ, List.getElem_cons_zero]
         refine wpAnyH_take (i := 2) (v := ?vv38) rfl (by kernel_rfl) (by kernel_rfl) (by kernel_rfl) (fun _ _ _ h => h) (Or.inl ⟨by rfl, ?hy38⟩) hHeld ?rr38
         case hy38 => (intro w' hSw; obtain ⟨g0, g1, g2, g3⟩ := hSw; go_simp; try with_reducible rfl)
         try simp only [Act.put, List.setIfInBounds_toArray, List.set_cons_zero, List.set_cons_succ, List.getElem_toArray, List.getElem_cons_succ, List.getElem_cons_zero]
         refine wpAnyH_take (i := 4) (v := ?vv39) rfl (by kernel_rfl) (by kernel_rfl) (by kernel_rfl) (fun _ _ _ h => h) (Or.inl ⟨by rfl, ?hy39⟩) hHeld ?rr39
         case hy39 => (intro w' hSw; obtain ⟨g0, g1, g2, g3⟩ := hSw; go_simp; try with_reducible rfl)
         try simp only [Act.put, List.setIfInBounds_toArray, List.set_cons_zero, List.set_cons_succ, List.getElem_toArray, List.getElem_cons_succ, List.getElem_cons_zero]
         refine wpAnyH_take (i := 5) (v := ?vv40) rfl (by kernel_rfl) (by kernel_rfl) (by kernel_rfl) (fun _ _ _ h => h) (Or.inl ⟨by rfl, ?hy40⟩) hHeld ?rr40
         case hy40 => (intro w' hSw; obtain ⟨g0, g1, g2, g3⟩ := hSw; go_simp; try with_reducible rfl)
         try simp only [Act.put, List.setIfInBounds_toArray, List.set_cons_zero, List.set_cons_succ, List.getElem_toArray, List.getElem_cons_succ, List.getElem_cons_zero]
         refine wpAnyH_take (i := 6) (v := ?vv41) rfl (by kernel_rfl) (by kernel_rfl) (by kernel_rfl) (fun _ _ _ h => h) (Or.inl ⟨by rfl, ?hy41⟩) hHeld ?rr41
         case hy41 => (intro w' hSw; obtain ⟨g0, g1, g2, g3⟩ := hSw; go_simp; try with_reducible rfl)
         try simp only [Act.put, List.setIfInBounds_toArray, List.set_cons_zero, List.set_cons_succ, List.getElem_toArray, List.getElem_cons_succ, List.getElem_cons_zero]
         refine wpAnyH_take (i := 7) (v := ?vv42) rfl (by kernel_rfl) (by kernel_rfl) (by kernel_rfl) (fun _ _ _ h => h) (Or.inl ⟨by rfl, ?hy42⟩) hHeld ?rr42
         case hy42 => (intro w' hSw; obtain ⟨g0, g1, g2, g3⟩ := hSw; go_simp; try with_reducible rfl)
         try simp only [Act.put, List.setIfInBounds_toArray, List.set_cons_zero, List.set_cons_succ, List.getElem_toArray, List.getElem_cons_succ, List.getElem_cons_zero]
         refine wpAnyH_take (i := 8) (v := ?vv43) rfl (by kernel_rfl) (by kernel_rfl) (by kernel_rfl) (fun _ _ _ h => h) (Or.inl ⟨by rfl, ?hy43⟩) hHeld ?rr43
         case hy43 => (intro w' hSw; obtain ⟨g0, g1, g2, g3⟩ := hSw; go_simp; try with_reducible rfl)
         try simp only [Act.put, List.setIfInBounds_toArray, List.set_cons_zero, List.set_cons_succ, List.getElem_toArray, List.getElem_cons_succ, List.getElem_cons_zero]
         refine wpAnyH_take (i := 9) (v := ?vv44) rfl (by kernel_rfl) (by kernel_rfl) (by kernel_rfl) (fun _ _ _ h => h) (Or.inl ⟨by rfl, ?hy44⟩) hHeld ?rr44
         case hy44 => (intro w' hSw; obtain ⟨g0, g1, g2, g3⟩ := hSw; go_simp; try with_reducible rfl)
         try simp only [Act.put, List.setIfInBounds_toArray, List.set_cons_zero, List.set_cons_succ, List.getElem_toArray, List.getElem_cons_succ, List.getElem_cons_zero]
         refine wpAnyH_ready (rs := [1]) (by kernel_rfl) (by simp) ?_
         refine AllReadyH.cons rfl (fun K hK => ?_) AllReadyH.nil
         go_simp
         have hB1 : Below W0.heap.size W0 (W0.alloc (.cells #[.int .i64 2, strV key, .slice la vals.length lc] 42)).drew := (below_alloc _ _).drew
         have hH1 : (W0.alloc (.cells #[.int .i64 2, strV key, .slice la vals.length lc] 42)).drew.heap[W0.heap.size]? = _ := heap_new W0 (.cells #[.int .i64 2, strV key, .slice la vals.length lc] 42)
         generalize (W0.alloc (.cells #[.int .i64 2, strV key, .slice la vals.length lc] 42)).drew = W1 at *
         refine hK.out _ _ (HD.out _ hB1) (fun hHeld2 => ?_)
         clear hK K hHeld
         have hHeld := hHeld2
         clear hHeld2
         try simp only [Act.put, List.setIfInBounds_toArray, List.set_cons_zero, List.set_cons_succ, List.getElem_toArray, List.getElem_cons_succ, List.getElem_cons_zero]
         refine wpAnyH_ready (rs := [3]) (by kernel_rfl) (by simp) ?_
         refine AllReadyH.cons rfl (fun K hK => ?_) AllReadyH.nil
         go_simp
         go_at_call 22
         refine Calls.mono (by with_reducible exact HM2.out _ _ _ (HB0.out.trans (hB1.mono HB0.out.size)) (cls_new hH1 (HFx.out.later hB1))) ?_
         rintro e W2 ⟨rfl, hb⟩
         have hB2 := hB1.trans (hb.mono hB1.size)
         clear hb hB1 hH1
         go_wp2_with fail
         refine hK.out _ _ (HD.out _ hB2) (fun hHeld2 => ?_)
         clear hK K hHeld
         have hHeld := hHeld2
         clear hHeld2
         try simp only [Act.put, List.setIfInBounds_toArray, List.set_cons_zero, List.set_cons_succ, List.getElem_toArray, List.getElem_cons_succ, List.getElem_cons_zero]
         refine wpAnyH_ready (rs := [10]) (by kernel_rfl) (by simp) ?_
         refine AllReadyH.cons rfl (fun K hK => ?_) AllReadyH.nil
         go_simp
         go_at_call 22
         refine Calls.mono (by with_reducible exact HM1.out _ _ _ (HB0.out.trans (hB2.mono HB0.out.size)) (HC1.out _ (HB0.out.trans (hB2.mono HB0.out.size)))) ?_
         rintro e W3 ⟨rfl, hb⟩
         have hB3 := hB2.trans (hb.mono hB2.size)
         clear hb hB2
         go_wp2_with fail
         refine hK.out _ _ (HD.out _ hB3) (fun hHeld2 => ?_)
         clear hK K hHeld
         have hHeld := hHeld2
         clear hHeld2
         try simp only [Act.put, List.setIfInBounds_toArray, List.set_cons_zero, List.set_cons_succ, List.getElem_toArray, List.getElem_cons_succ, List.getElem_cons_zero]
         refine wpAnyH_take (i := 11) (v := ?vv45) rfl (by kernel_rfl) (by kernel_rfl) (by kernel_rfl) (fun _ _ _ h => h) (Or.inl ⟨by rfl, ?hy45⟩) hHeld ?rr45
         case hy45 => (intro w' hSw; obtain ⟨g0, g1, g2, g3⟩ := hSw; go_simp; try with_reducible rfl)
         try simp only [Act.put, List.setIfInBounds_toArray, List.set_cons_zero, List.set_cons_succ, List.getElem_toArray, List.getElem_cons_succ, List.getElem_cons_zero]
         refine wpAnyH_done (by kernel_rfl) ?_ _
         clear hHeld
         have HB4 := Lib.hid (HB0.out.trans (hB3.mono HB0.out.size))
         clear hB3 HD HM1 HM2 HC1
         go_wp2
         go_roundw
         case rel => exact ⟨k + 1, by omega, by go_num, HB4⟩
         case measure => simp [intOf]; omega
       by_cases h2 : kind = 2
       · subst h2
         go_wp2_with fail
         have hH0 := heap_new wr (.cells #[.int .i64 1, strV key, .slice la vals.length lc] 42)
         have hB0 := HBr.out.alloc HBr.out.size (.cells #[.int .i64 1, strV key, .slice la vals.length lc] 42)
         have HFx := Lib.hid (fit_kind (HF.out.later (below_alloc wr (.cells #[.int .i64 1, strV key, .slice la vals.length lc] 42))) 1)
         have hg : wr.heap.size < (wr.alloc (.cells #[.int .i64 1, strV key, .slice la vals.length lc] 42)).heap.size := by simp
         generalize wr.alloc (.cells #[.int .i64 1, strV key, .slice la vals.length lc] 42) = W0 at *
         generalize wr.heap.size = g at *
         obtain ⟨d0, d1, d2⟩ : W0.cell? ⟨g, 0, none⟩ = some (.int .i64 1) ∧ W0.cell? ⟨g, 1, none⟩ = some (strV key) ∧ W0.cell? ⟨g, 2, none⟩ = some (.slice la vals.length lc) := by have hc := (cells_of_heap hH0).1; exact ⟨hc 0, hc 1, hc 2⟩
         have HB0 := Lib.hid hB0
         have HLT := Lib.hid hg
         have HQ : Hid (mClause l ⟨1, key, la, vals, lc⟩ = !mClause l ⟨2, key, la, vals, lc⟩) := Lib.hid (mCl_not l key la vals lc _ _ (by decide))
         have HM2 := Lib.hid (fun V gg d h1 h2 => HMx.out V gg d ⟨1, key, la, vals, lc⟩ h1 h2)
         have HM1 := Lib.hid (fun V gg d h1 h2 => HMx.out V gg d ⟨2, key, la, vals, lc⟩ h1 h2)
         have HC1 := Lib.hid (fun V (h : Below w.heap.size w V) => cls_one (HA.out.later h) hlt)
         rw [HX.out] at HC1
         rw [HQ.out] at HM2
         generalize mClause l ⟨2, key, la, vals, lc⟩ = q at *
         have HD : Hid (∀ V, Below W0.heap.size W0 V → (fun w' => w'.cell? ⟨g, 0, none⟩ = some (.int .i64 1) ∧ w'.cell? ⟨g, 1, none⟩ = some (strV key) ∧ w'.cell? ⟨g, 2, none⟩ = some (.slice la vals.length lc) ∧ Below W0.heap.size W0 w') V) := Lib.hid (fun V h => ⟨(h.cell (p := ⟨g, 0, none⟩) HLT.out).trans d0, (h.cell (p := ⟨g, 1, none⟩) HLT.out).trans d1, (h.cell (p := ⟨g, 2, none⟩) HLT.out).trans d2, h⟩)
         clear hH0 hB0 hg HQ
         refine wp_region_held_drew (S := (fun w' => w'.cell? ⟨g, 0, none⟩ = some (.int .i64 1) ∧ w'.cell? ⟨g, 1, none⟩ = some (strV key) ∧ w'.cell? ⟨g, 2, none⟩ = some (.slice la vals.length lc) ∧ Below W0.heap.size W0 w')) (by kernel_rfl) (HD.out _ (Below.refl _ _).drew) (fun hHeld => ?_)
         clear d0 d1 d2
         refine wpAnyH_take (i := 0) (v := ?vv46) rfl (by kernel_rfl) (by kernel_rfl) (by kernel_rfl) (fun _ _ _ h => h) (Or.inl ⟨by rfl, ?hy46⟩) hHeld ?rr46
         case hy46 => (intro w' hSw; obtain ⟨g0, g1, g2, g3⟩ := hSw; go_simp; try with_reducible rfl)
         try simp only [Act.put, List.setIfInBounds_toArray, List.set_cons_zero, List.set_cons_succ, List.getElem_toArray, List.getElem_cons_succ, List.getElem_cons_zero]
         refine wpAnyH_take (i := 2) (v := ?vv47) rfl (by kernel_rfl) (by kernel_rfl) (by kernel_rfl) (fun _ _ _ h => h) (Or.inl ⟨by rfl, ?hy47⟩) hHeld ?rr47
         case hy47 => (intro w' hSw; obtain ⟨g0, g1, g2, g3⟩ := hSw; go_simp; try with_reducible rfl)
         try simp only [Act.put, List.setIfInBounds_toArray, List.set_cons_zero, List.set_cons_succ, List.getElem_toArray, List.getElem_cons_succ, List.getElem_cons_zero]
         refine wpAnyH_take (i := 4) (v := ?vv48) rfl (by kernel_rfl) (by kernel_rfl) (by kernel_rfl) (fun _ _ _ h => h) (Or.inl ⟨by rfl, ?hy48⟩) hHeld ?rr48
         case hy48 => (intro w' hSw; obtain ⟨g0, g1, g2, g3⟩ := hSw; go_simp; try with_reducible rfl)
         try simp only [Act.put, List.setIfInBounds_toArray, List.set_cons_zero, List.set_cons_succ, List.getElem_toArray, List.getElem_cons_succ, List.getElem_cons_zero]
         refine wpAnyH_take (i := 5) (v := ?vv49) rfl (by kernel_rfl) (by kernel_rfl) (by kernel_rfl) (fun _ _ _ h => h) (Or.inl ⟨by rfl, ?hy49⟩) hHeld ?rr49
         case hy49 => (intro w' hSw; obtain ⟨g0, g1, g2, g3⟩ := hSw; go_simp; try with_reducible rfl)
         try simp only [Act.put, List.setIfInBounds_toArray, List.set_cons_zero, List.set_cons_succ, List.getElem_toArray, List.getElem_cons_succ, List.getElem_cons_zero]
         refine wpAnyH_take (i := 6) (v := ?vv50) rfl (by kernel_rfl) (by kernel_rfl) (by kernel_rfl) (fun _ _ _ h => h) (Or.inl ⟨by rfl, ?hy50⟩) hHeld ?rr50
         case hy50 => (intro w' hSw; obtain ⟨g0, g1, g2, g3⟩ := hSw; go_simp; try with_reducible rfl)
         try simp only [Act.put, List.setIfInBounds_toArray, List.set_cons_zero, List.set_cons_succ, List.getElem_toArray, List.getElem_cons_succ, List.getElem_cons_zero]
         refine wpAnyH_take (i := 7) (v := ?vv51) rfl (by kernel_rfl) (by kernel_rfl) (by kernel_rfl) (fun _ _ _ h => h) (Or.inl ⟨by rfl, ?hy51⟩) hHeld ?rr51
         case hy51 => (intro w' hSw; obtain ⟨g0, g1, g2, g3⟩ := hSw; go_simp; try with_reducible rfl)
         try simp only [Act.put, List.setIfInBounds_toArray, List.set_cons_zero, List.set_cons_succ, List.getElem_toArray, List.getElem_cons_succ, List.getElem_cons_zero]
         refine wpAnyH_take (i := 8) (v := ?vv52) rfl (by kernel_rfl) (by kernel_rfl) (by kernel_rfl) (fun _ _ _ h => h) (Or.inl ⟨by rfl, ?hy52⟩) hHeld ?rr52
         case hy52 => (intro w' hSw; obtain ⟨g0, g1, g2, g3⟩ := hSw; go_simp; try with_reducible rfl)
         try simp only [Act.put, List.setIfInBounds_toArray, List.set_cons_zero, List.set_cons_succ, List.getElem_toArray, List.getElem_cons_succ, List.getElem_cons_zero]
         refine wpAnyH_take (i := 9) (v := ?vv53) rfl (by kernel_rfl) (by kernel_rfl) (by kernel_rfl) (fun _ _ _ h => h) (Or.inl ⟨by rfl, ?hy53⟩) hHeld ?rr53
         case hy53 => (intro w' hSw; obtain ⟨g0, g1, g2, g3⟩ := hSw; go_simp; try with_reducible rfl)
         try simp only [Act.put, List.setIfInBounds_toArray, List.set_cons_zero, List.set_cons_succ, List.getElem_toArray, List.getElem_cons_succ, List.getElem_cons_zero]
         refine wpAnyH_ready (rs := [1]) (by kernel_rfl) (by simp) ?_
         refine AllReadyH.cons rfl (fun K hK => ?_) AllReadyH.nil
         go_simp
         have hB1 : Below W0.heap.size W0 (W0.alloc (.cells #[.int .i64 1, strV key, .slice la vals.length lc] 42)).drew := (below_alloc _ _).drew
         have hH1 : (W0.alloc (.cells #[.int .i64 1, strV key, .slice la vals.length lc] 42)).drew.heap[W0.heap.size]? = _ := heap_new W0 (.cells #[.int .i64 1, strV key, .slice la vals.length lc] 42)
         generalize (W0.alloc (.cells #[.int .i64 1, strV key, .slice la vals.length lc] 42)).drew = W1 at *
         refine hK.out _ _ (HD.out _ hB1) (fun hHeld2 => ?_)
         clear hK K hHeld
         have hHeld := hHeld2
         clear hHeld2
         try simp only [Act.put, List.setIfInBounds_toArray, List.set_cons_zero, List.set_cons_succ, List.getElem_toArray, List.getElem_cons_succ, List.getElem_cons_zero]
         refine wpAnyH_ready (rs := [3]) (by kernel_rfl) (by simp) ?_
         refine AllReadyH.cons rfl (fun K hK => ?_) AllReadyH.nil
         go_simp
         go_at_call 22
         refine Calls.mono (by with_reducible exact HM2.out _ _ _ (HB0.out.trans (hB1.mono HB0.out.size)) (cls_new hH1 (HFx.out.later hB1))) ?_
         rintro e W2 ⟨rfl, hb⟩
         have hB2 := hB1.trans (hb.mono hB1.size)
         clear hb hB1 hH1
         go_wp2_with fail
         refine hK.out _ _ (HD.out _ hB2) (fun hHeld2 => ?_)
         clear hK K hHeld
         have hHeld := hHeld2
         clear hHeld2
         try simp only [Act.put, List.setIfInBounds_toArray, List.set_cons_zero, List.set_cons_succ, List.getElem_toArray, List.getElem_cons_succ, List.getElem_cons_zero]
         refine wpAnyH_ready (rs := [10]) (by kernel_rfl) (by simp) ?_
         refine AllReadyH.cons rfl (fun K hK => ?_) AllReadyH.nil
         go_simp
         go_at_call 22
         refine Calls.mono (by with_reducible exact HM1.out _ _ _ (HB0.out.trans (hB2.mono HB0.out.size)) (HC1.out _ (HB0.out.trans (hB2.mono HB0.out.size)))) ?_
         rintro e W3 ⟨rfl, hb⟩
         have hB3 := hB2.trans (hb.mono hB2.size)
         clear hb hB2
         go_wp2_with fail
         refine hK.out _ _ (HD.out _ hB3) (fun hHeld2 => ?_)
         clear hK K hHeld
         have hHeld := hHeld2
         clear hHeld2
         try simp only [Act.put, List.setIfInBounds_toArray, List.set_cons_zero, List.set_cons_succ, List.getElem_toArray, List.getElem_cons_succ, List.getElem_cons_zero]
         refine wpAnyH_take (i := 11) (v := ?vv54) rfl (by kernel_rfl) (by kernel_rfl) (by kernel_rfl) (fun _ _ _ h => h) (Or.inl ⟨by rfl, ?hy54⟩) hHeld ?rr54
         case hy54 => (intro w' hSw; obtain ⟨g0, g1, g2, g3⟩ := hSw; go_simp; try with_reducible rfl)
         try simp only [Act.put, List.setIfInBounds_toArray, List.set_cons_zero, List.set_cons_succ, List.getElem_toArray, List.getElem_cons_succ, List.getElem_cons_zero]
         refine wpAnyH_done (by kernel_rfl) ?_ _
         clear hHeld
         have HB4 := Lib.hid (HB0.out.trans (hB3.mono HB0.out.size))
         clear hB3 HD HM1 HM2 HC1
         go_wp2
         go_roundw
         case rel => exact ⟨k + 1, by omega, by go_num, HB4⟩
         case measure => simp [intOf]; omega
       by_cases h3 : kind = 3
       · subst h3
         go_wp2_with fail
         have hH0 := heap_new wr (.cells #[.int .i64 4, strV key, .slice la vals.length lc] 42)
         have hB0 := HBr.out.alloc HBr.out.size (.cells #[.int .i64 4, strV key, .slice la vals.length lc] 42)
         have HFx := Lib.hid (fit_kind (HF.out.later (below_alloc wr (.cells #[.int .i64 4, strV key, .slice la vals.length lc] 42))) 4)
         have hg : wr.heap.size < (wr.alloc (.cells #[.int .i64 4, strV key, .slice la vals.length lc] 42)).heap.size := by simp
         generalize wr.alloc (.cells #[.int .i64 4, strV key, .slice la vals.length lc] 42) = W0 at *
         generalize wr.heap.size = g at *
         obtain ⟨d0, d1, d2⟩ : W0.cell? ⟨g, 0, none⟩ = some (.int .i64 4) ∧ W0.cell? ⟨g, 1, none⟩ = some (strV key) ∧ W0.cell? ⟨g, 2, none⟩ = some (.slice la vals.length lc) := by have hc := (cells_of_heap hH0).1; exact ⟨hc 0, hc 1, hc 2⟩
         have HB0 := Lib.hid hB0
         have HLT := Lib.hid hg
         have HQ : Hid (mClause l ⟨4, key, la, vals, lc⟩ = !mClause l ⟨3, key, la, vals, lc⟩) := Lib.hid (mCl_not l key la vals lc _ _ (by decide))
         have HM2 := Lib.hid (fun V gg d h1 h2 => HMx.out V gg d ⟨4, key, la, vals, lc⟩ h1 h2)
         have HM1 := Lib.hid (fun V gg d h1 h2 => HMx.out V gg d ⟨3, key, la, vals, lc⟩ h1 h2)
         have HC1 := Lib.hid (fun V (h : Below w.heap.size w V) => cls_one (HA.out.later h) hlt)
         rw [HX.out] at HC1
         rw [HQ.out] at HM2
         generalize mClause l ⟨3, key, la, vals, lc⟩ = q at *
         have HD : Hid (∀ V, Below W0.heap.size W0 V → (fun w' => w'.cell? ⟨g, 0, none⟩ = some (.int .i64 4) ∧ w'.cell? ⟨g, 1, none⟩ = some (strV key) ∧ w'.cell? ⟨g, 2, none⟩ = some (.slice la vals.length lc) ∧ Below W0.heap.size W0 w') V) := Lib.hid (fun V h => ⟨(h.cell (p := ⟨g, 0, none⟩) HLT.out).trans d0, (h.cell (p := ⟨g, 1, none⟩) HLT.out).trans d1, (h.cell (p := ⟨g, 2, none⟩) HLT.out).trans d2, h⟩)
         clear hH0 hB0 hg HQ
         refine wp_region_held_drew (S := (fun w' => w'.cell? ⟨g, 0, none⟩ = some (.int .i64 4) ∧ w'.cell? ⟨g, 1, none⟩ = some (strV key) ∧ w'.cell? ⟨g, 2, none⟩ = some (.slice la vals.length lc) ∧ Below W0.heap.size W0 w')) (by kernel_rfl) (HD.out _ (Below.refl _ _).drew) (fun hHeld => ?_)
         clear d0 d1 d2
         refine wpAnyH_take (i := 0) (v := ?vv55) rfl (by kernel_rfl) (by kernel_rfl) (by kernel_rfl) (fun _ _ _ h => h) (Or.inl ⟨by rfl, ?hy55⟩) hHeld ?rr55
         case hy55 => (intro w' hSw; obtain ⟨g0, g1, g2, g3⟩ := hSw; go_simp; try with_reducible rfl)
         try simp only [Act.put, List.setIfInBounds_toArray, List.set_cons_zero, List.set_cons_succ, List.getElem_toArray, List.getElem_cons_succ, List.getElem_cons_zero]
         refine wpAnyH_take (i := 2) (v := ?vv56) rfl (by kernel_rfl) (by kernel_rfl) (by kernel_rfl) (fun _ _ _ h => h) (Or.inl ⟨by rfl, ?hy56⟩) hHeld ?rr56
         case hy56 => (intro w' hSw; obtain ⟨g0, g1, g2, g3⟩ := hSw; go_simp; try with_reducible rfl)
         try simp only [Act.put, List.setIfInBounds_toArray, List.set_cons_zero, List.set_cons_succ, List.getElem_toArray, List.getElem_cons_succ, List.getElem_cons_zero]
         refine wpAnyH_take (i := 4) (v := ?vv57) rfl (by kernel_rfl) (by kernel_rfl) (by kernel_rfl) (fun _ _ _ h => h) (Or.inl ⟨by rfl, ?hy57⟩) hHeld ?rr57
         case hy57 => (intro w' hSw; obtain ⟨g0, g1, g2, g3⟩ := hSw; go_simp; try with_reducible rfl)
         try simp only [Act.put, List.setIfInBounds_toArray, List.set_cons_zero, List.set_cons_succ, List.getElem_toArray, List.getElem_cons_succ, List.getElem_cons_zero]
         refine wpAnyH_take (i := 5) (v := ?vv58) rfl (by kernel_rfl) (by kernel_rfl) (by kernel_rfl) (fun _ _ _ h => h) (Or.inl ⟨by rfl, ?hy58⟩) hHeld ?rr58
         case hy58 => (intro w' hSw; obtain ⟨g0, g1, g2, g3⟩ := hSw; go_simp; try with_reducible rfl)
         try simp only [Act.put, List.setIfInBounds_toArray, List.set_cons_zero, List.set_cons_succ, List.getElem_toArray, List.getElem_cons_succ, List.getElem_cons_zero]
         refine wpAnyH_take (i := 6) (v := ?vv59) rfl (by kernel_rfl) (by kernel_rfl) (by kernel_rfl) (fun _ _ _ h => h) (Or.inl ⟨by rfl, ?hy59⟩) hHeld ?rr59
         case hy59 => (intro w' hSw; obtain ⟨g0, g1, g2, g3⟩ := hSw; go_simp; try with_reducible rfl)
         try simp only [Act.put, List.setIfInBounds_toArray, List.set_cons_zero, List.set_cons_succ, List.getElem_toArray, List.getElem_cons_succ, List.getElem_cons_zero]
         refine wpAnyH_take (i := 7) (v := ?vv60) rfl (by kernel_rfl) (by kernel_rfl) (by kernel_rfl) (fun _ _ _ h => h) (Or.inl ⟨by rfl, ?hy60⟩) hHeld ?rr60
         case hy60 => (intro w' hSw; obtain ⟨g0, g1, g2, g3⟩ := hSw; go_simp; try with_reducible rfl)
         try simp only [Act.put, List.setIfInBounds_toArray, List.set_cons_zero, List.set_cons_succ, List.getElem_toArray, List.getElem_cons_succ, List.getElem_cons_zero]
         refine wpAnyH_take (i := 8) (v := ?vv61) rfl (by kernel_rfl) (by kernel_rfl) (by kernel_rfl) (fun _ _ _ h => h) (Or.inl ⟨by rfl, ?hy61⟩) hHeld ?rr61
         case hy61 => (intro w' hSw; obtain ⟨g0, g1, g2, g3⟩ := hSw; go_simp; try with_reducible rfl)
         try simp only [Act.put, List.setIfInBounds_toArray, List.set_cons_zero, List.set_cons_succ, List.getElem_toArray, List.getElem_cons_succ, List.getElem_cons_zero]
         refine wpAnyH_take (i := 9) (v := ?vv62) rfl (by kernel_rfl) (by kernel_rfl) (by kernel_rfl) (fun _ _ _ h => h) (Or.inl ⟨by rfl, ?hy62⟩) hHeld ?rr62
         case hy62 => (intro w' hSw; obtain ⟨g0, g1, g2, g3⟩ := hSw; go_simp; try with_reducible rfl)
         try simp only [Act.put, List.setIfInBounds_toArray, List.set_cons_zero, List.set_cons_succ, List.getElem_toArray, List.getElem_cons_succ, List.getElem_cons_zero]
         refine wpAnyH_ready (rs := [1]) (by kernel_rfl) (by simp) ?_
         refine AllReadyH.cons rfl (fun K hK => ?_) AllReadyH.nil
         go_simp
         have hB1 : Below W0.heap.size W0 (W0.alloc (.cells #[.int .i64 4, strV key, .slice la vals.length lc] 42)).drew := (below_alloc _ _).drew
         have hH1 : (W0.alloc (.cells #[.int .i64 4, strV key, .slice la vals.length lc] 42)).drew.heap[W0.heap.size]? = _ := heap_new W0 (.cells #[.int .i64 4, strV key, .slice la vals.length lc] 42)
         generalize (W0.alloc (.cells #[.int .i64 4, strV key, .slice la vals.length lc] 42)).drew = W1 at *
         refine hK.out _ _ (HD.out _ hB1) (fun hHeld2 => ?_)
         clear hK K hHeld
         have hHeld := hHeld2
         clear hHeld2
         try simp only [Act.put, List.setIfInBounds_toArray, List.set_cons_zero, List.set_cons_succ, List.getElem_toArray, List.getElem_cons_succ, List.getElem_cons_zero]
         refine wpAnyH_ready (rs := [3]) (by kernel_rfl) (by simp) ?_
         refine AllReadyH.cons rfl (fun K hK => ?_) AllReadyH.nil
         go_simp
         go_at_call 22
         refine Calls.mono (by with_reducible exact HM2.out _ _ _ (HB0.out.trans (hB1.mono HB0.out.size)) (cls_new hH1 (HFx.out.later hB1))) ?_
         rintro e W2 ⟨rfl, hb⟩
         have hB2 := hB1.trans (hb.mono hB1.size)
         clear hb hB1 hH1
         go_wp2_with fail
         refine hK.out _ _ (HD.out _ hB2) (fun hHeld2 => ?_)
         clear hK K hHeld
         have hHeld := hHeld2
         clear hHeld2
         try simp only [Act.put, List.setIfInBounds_toArray, List.set_cons_zero, List.set_cons_succ, List.getElem_toArray, List.getElem_cons_succ, List.getElem_cons_zero]
         refine wpAnyH_ready (rs := [10]) (by kernel_rfl) (by simp) ?_
         refine AllReadyH.cons rfl (fun K hK => ?_) AllReadyH.nil
         go_simp
         go_at_call 22
         refine Calls.mono (by with_reducible exact HM1.out _ _ _ (HB0.out.trans (hB2.mono HB0.out.size)) (HC1.out _ (HB0.out.trans (hB2.mono HB0.out.size)))) ?_
         rintro e W3 ⟨rfl, hb⟩
         have hB3 := hB2.trans (hb.mono hB2.size)
         clear hb hB2
         go_wp2_with fail
         refine hK.out _ _ (HD.out _ hB3) (fun hHeld2 => ?_)
         clear hK K hHeld
         have hHeld := hHeld2
         clear hHeld2
         try simp only [Act.put, List.setIfInBounds_toArray, List.set_cons_zero, List.set_cons_succ, List.getElem_toArray, List.getElem_cons_succ, List.getElem_cons_zero]
         refine wpAnyH_take (i := 11) (v := ?vv63) rfl (by kernel_rfl) (by kernel_rfl) (by kernel_rfl) (fun _ _ _ h => h) (Or.inl ⟨by rfl, ?hy63⟩) hHeld ?rr63
         case hy63 => (intro w' hSw; obtain ⟨g0, g1, g2, g3⟩ := hSw; go_simp; try with_reducible rfl)
         try simp only [Act.put, List.setIfInBounds_toArray, List.set_cons_zero, List.set_cons_succ, List.getElem_toArray, List.getElem_cons_succ, List.getElem_cons_zero]
         refine wpAnyH_done (by kernel_rfl) ?_ _
         clear hHeld
         have HB4 := Lib.hid (HB0.out.trans (hB3.mono HB0.out.size))
         clear hB3 HD HM1 HM2 HC1
         go_wp2
         go_roundw
         case rel => exact ⟨k + 1, by omega, by go_num, HB4⟩
         case measure => simp [intOf]; omega
       by_cases h4 : kind = 4
       · subst h4
         go_wp2_with fail
         have hH0 := heap_new wr (.cells #[.int .i64 3, strV key, .slice la vals.length lc] 42)
         have hB0 := HBr.out.alloc HBr.out.size (.cells #[.int .i64 3, strV key, .slice la vals.length lc] 42)
         have HFx := Lib.hid (fit_kind (HF.out.later (below_alloc wr (.cells #[.int .i64 3, strV key, .slice la vals.length lc] 42))) 3)
         have hg : wr.heap.size < (wr.alloc (.cells #[.int .i64 3, strV key, .slice la vals.length lc] 42)).heap.size := by simp
         generalize wr.alloc (.cells #[.int .i64 3, strV key, .slice la vals.length lc] 42) = W0 at *
         generalize wr.heap.size = g at *
         obtain ⟨d0, d1, d2⟩ : W0.cell? ⟨g, 0, none⟩ = some (.int .i64 3) ∧ W0.cell? ⟨g, 1, none⟩ = some (strV key) ∧ W0.cell? ⟨g, 2, none⟩ = some (.slice la vals.length lc) := by have hc := (cells_of_heap hH0).1; exact ⟨hc 0, hc 1, hc 2⟩
         have HB0 := Lib.hid hB0
         have HLT := Lib.hid hg
         have HQ : Hid (mClause l ⟨3, key, la, vals, lc⟩ = !mClause l ⟨4, key, la, vals, lc⟩) := Lib.hid (mCl_not l key la vals lc _ _ (by decide))
         have HM2 := Lib.hid (fun V gg d h1 h2 => HMx.out V gg d ⟨3, key, la, vals, lc⟩ h1 h2)
         have HM1 := Lib.hid (fun V gg d h1 h2 => HMx.out V gg d ⟨4, key, la, vals, lc⟩ h1 h2)
         have HC1 := Lib.hid (fun V (h : Below w.heap.size w V) => cls_one (HA.out.later h) hlt)
         rw [HX.out] at HC1
         rw [HQ.out] at HM2
         generalize mClause l ⟨4, key, la, vals, lc⟩ = q at *
         have HD : Hid (∀ V, Below W0.heap.size W0 V → (fun w' => w'.cell? ⟨g, 0, none⟩ = some (.int .i64 3) ∧ w'.cell? ⟨g, 1, none⟩ = some (strV key) ∧ w'.cell? ⟨g, 2, none⟩ = some (.slice la vals.length lc) ∧ Below W0.heap.size W0 w') V) := Lib.hid (fun V h => ⟨(h.cell (p := ⟨g, 0, none⟩) HLT.out).trans d0, (h.cell (p := ⟨g, 1, none⟩) HLT.out).trans d1, (h.cell (p := ⟨g, 2, none⟩) HLT.out).trans d2, h⟩)
         clear hH0 hB0 hg HQ
         refine wp_region_held_drew (S := (fun w' => w'.cell? ⟨g, 0, none⟩ = some (.int .i64 3) ∧ w'.cell? ⟨g, 1, none⟩ = some (strV key) ∧ w'.cell? ⟨g, 2, none⟩ = some (.slice la vals.length lc) ∧ Below W0.heap.size W0 w')) (by kernel_rfl) (HD.out _ (Below.refl _ _).drew) (fun hHeld => ?_)
         clear d0 d1 d2
         refine wpAnyH_take (i := 0) (v := ?vv64) rfl (by kernel_rfl) (by kernel_rfl) (by kernel_rfl) (fun _ _ _ h => h) (Or.inl ⟨by rfl, ?hy64⟩) hHeld ?rr64
         case hy64 => (intro w' hSw; obtain ⟨g0, g1, g2, g3⟩ := hSw; go_simp; try with_reducible rfl)
         try simp only [Act.put, List.setIfInBounds_toArray, List.set_cons_zero, List.set_cons_succ, List.getElem_toArray, List.getElem_cons_succ, List.getElem_cons_zero]
         refine wpAnyH_take (i := 2) (v := ?vv65) rfl (by kernel_rfl) (by kernel_rfl) (by kernel_rfl) (fun _ _ _ h => h) (Or.inl ⟨by rfl, ?hy65⟩) hHeld ?rr65
         case hy65 => (intro w' hSw; obtain ⟨g0, g1, g2, g3⟩ := hSw; go_simp; try with_reducible rfl)
         try simp only [Act.put, List.setIfInBounds_toArray, List.set_cons_zero, List.set_cons_succ, List.getElem_toArray, List.getElem_cons_succ, List.getElem_cons_zero]
         refine wpAnyH_take (i := 4) (v := ?vv66) rfl (by kernel_rfl) (by kernel_rfl) (by kernel_rfl) (fun _ _ _ h => h) (Or.inl ⟨by rfl, ?hy66⟩) hHeld ?rr66
         case hy66 => (intro w' hSw; obtain ⟨g0, g1, g2, g3⟩ := hSw; go_simp; try with_reducible rfl)
         try simp only [Act.put, List.setIfInBounds_toArray, List.set_cons_zero, List.set_cons_succ, List.getElem_toArray, List.getElem_cons_succ, List.getElem_cons_zero]
         refine wpAnyH_take (i := 5) (v := ?vv67) rfl (by kernel_rfl) (by kernel_rfl) (by kernel_rfl) (fun _ _ _ h => h) (Or.inl ⟨by rfl, ?hy67⟩) hHeld ?rr67
         case hy67 => (intro w' hSw; obtain ⟨g0, g1, g2, g3⟩ := hSw; go_simp; try with_reducible rfl)
         try simp only [Act.put, List.setIfInBounds_toArray, List.set_cons_zero, List.set_cons_succ, List.getElem_toArray, List.getElem_cons_succ, List.getElem_cons_zero]
         refine wpAnyH_take (i := 6) (v := ?vv68) rfl (by kernel_rfl) (by kernel_rfl) (by kernel_rfl) (fun _ _ _ h => h) (Or.inl ⟨by rfl, ?hy68⟩) hHeld ?rr68
         case hy68 => (intro w' hSw; obtain ⟨g0, g1, g2, g3⟩ := hSw; go_simp; try with_reducible rfl)
         try simp only [Act.put, List.setIfInBounds_toArray, List.set_cons_zero, List.set_cons_succ, List.getElem_toArray, List.getElem_cons_succ, List.getElem_cons_zero]
         refine wpAnyH_take (i := 7) (v := ?vv69) rfl (by kernel_rfl) (by kernel_rfl) (by kernel_rfl) (fun _ _ _ h => h) (Or.inl ⟨by rfl, ?hy69⟩) hHeld ?rr69
         case hy69 => (intro w' hSw; obtain ⟨g0, g1, g2, g3⟩ := hSw; go_simp; try with_reducible rfl)
         try simp only [Act.put, List.setIfInBounds_toArray, List.set_cons_zero, List.set_cons_succ, List.getElem_toArray, List.getElem_cons_succ, List.getElem_cons_zero]
         refine wpAnyH_take (i := 8) (v := ?vv70) rfl (by kernel_rfl) (by kernel_rfl) (by kernel_rfl) (fun _ _ _ h => h) (Or.inl ⟨by rfl, ?hy70⟩) hHeld ?rr70
         case hy70 => (intro w' hSw; obtain ⟨g0, g1, g2, g3⟩ := hSw; go_simp; try with_reducible rfl)
         try simp only [Act.put, List.setIfInBounds_toArray, List.set_cons_zero, List.set_cons_succ, List.getElem_toArray, List.getElem_cons_succ, List.getElem_cons_zero]
         refine wpAnyH_take (i := 9) (v := ?vv71) rfl (by kernel_rfl) (by kernel_rfl) (by kernel_rfl) (fun _ _ _ h => h) (Or.inl ⟨by rfl, ?hy71⟩) hHeld ?rr71
         case hy71 => (intro w' hSw; obtain ⟨g0, g1, g2, g3⟩ := hSw; go_simp; try with_reducible rfl)
         try simp only [Act.put, List.setIfInBounds_toArray, List.set_cons_zero, List.set_cons_succ, List.getElem_toArray, List.getElem_cons_succ, List.getElem_cons_zero]
         refine wpAnyH_ready (rs := [1]) (by kernel_rfl) (by simp) ?_
         refine AllReadyH.cons rfl (fun K hK => ?_) AllReadyH.nil
         go_simp
         have hB1 : Below W0.heap.size W0 (W0.alloc (.cells #[.int .i64 3, strV key, .slice la vals.length lc] 42)).drew := (below_alloc _ _).drew
         have hH1 : (W0.alloc (.cells #[.int .i64 3, strV key, .slice la vals.length lc] 42)).drew.heap[W0.heap.size]? = _ := heap_new W0 (.cells #[.int .i64 3, strV key, .slice la vals.length lc] 42)
         generalize (W0.alloc (.cells #[.int .i64 3, strV key, .slice la vals.length lc] 42)).drew = W1 at *
         refine hK.out _ _ (HD.out _ hB1) (fun hHeld2 => ?_)
         clear hK K hHeld
         have hHeld := hHeld2
         clear hHeld2
         try simp only [Act.put, List.setIfInBounds_toArray, List.set_cons_zero, List.set_cons_succ, List.getElem_toArray, List.getElem_cons_succ, List.getElem_cons_zero]
         refine wpAnyH_ready (rs := [3]) (by kernel_rfl) (by simp) ?_
         refine AllReadyH.cons rfl (fun K hK => ?_) AllReadyH.nil
         go_simp
         go_at_call 22
         refine Calls.mono (by with_reducible exact HM2.out _ _ _ (HB0.out.trans (hB1.mono HB0.out.size)) (cls_new hH1 (HFx.out.later hB1))) ?_
         rintro e W2 ⟨rfl, hb⟩
         have hB2 := hB1.trans (hb.mono hB1.size)
         clear hb hB1 hH1
         go_wp2_with fail
         refine hK.out _ _ (HD.out _ hB2) (fun hHeld2 => ?_)
         clear hK K hHeld
         have hHeld := hHeld2
         clear hHeld2
         try simp only [Act.put, List.setIfInBounds_toArray, List.set_cons_zero, List.set_cons_succ, List.getElem_toArray, List.getElem_cons_succ, List.getElem_cons_zero]
         refine wpAnyH_ready (rs := [10]) (by kernel_rfl) (by simp) ?_
         refine AllReadyH.cons rfl (fun K hK => ?_) AllReadyH.nil
         go_simp
         go_at_call 22
         refine Calls.mono (by with_reducible exact HM1.out _ _ _ (HB0.out.trans (hB2.mono HB0.out.size)) (HC1.out _ (HB0.out.trans (hB2.mono HB0.out.size)))) ?_
         rintro e W3 ⟨rfl, hb⟩
         have hB3 := hB2.trans (hb.mono hB2.size)
         clear hb hB2
         go_wp2_with fail
         refine hK.out _ _ (HD.out _ hB3) (fun hHeld2 => ?_)
         clear hK K hHeld
         have hHeld := hHeld2
         clear hHeld2
         try simp only [Act.put, List.setIfInBounds_toArray, List.set_cons_zero, List.set_cons_succ, List.getElem_toArray, List.getElem_cons_succ, List.getElem_cons_zero]
         refine wpAnyH_take (i := 11) (v := ?vv72) rfl (by kernel_rfl) (by kernel_rfl) (by kernel_rfl) (fun _ _ _ h => h) (Or.inl ⟨by rfl, ?hy72⟩) hHeld ?rr72
         case hy72 => (intro w' hSw; obtain ⟨g0, g1, g2, g3⟩ := hSw; go_simp; try with_reducible rfl)
         try simp only [Act.put, List.setIfInBounds_toArray, List.set_cons_zero, List.set_cons_succ, List.getElem_toArray, List.getElem_cons_succ, List.getElem_cons_zero]
         refine wpAnyH_done (by kernel_rfl) ?_ _
         clear hHeld
         have HB4 := Lib.hid (HB0.out.trans (hB3.mono HB0.out.size))
         clear hB3 HD HM1 HM2 HC1
         go_wp2
         go_roundw
         case rel => exact ⟨k + 1, by omega, by go_num, HB4⟩
         case measure => simp [intOf]; omega
       have e1 : (kind == 1) = false := by simpa using h1
       have e2 : (kind == 2) = false := by simpa using h2
       have e3 : (kind == 3) = false := by simpa using h3
       have e4 : (kind == 4) = false := by simpa using h4
       clear hk1 hk63 hkc hkn hck hwr HKk hkd HX HF HMx HLi
       have HB4 := Lib.hid (fun o => HBr.out.alloc HBr.out.size o)
       go_wp2
       go_roundw
       case rel => exact ⟨k + 1, by omega, by go_num, Lib.hid (HB4.out _)⟩
       case measure => simp [intOf]; omega
     · obtain rfl : k = a.length := by omega
       go_wp2
       go_ret
       exact ⟨rfl, HBr.out⟩
  case true.false =>
   simp only [e0, e1, e2, e3] at HMab HMba
   clear e0 e1 e2 e3
   go_enter Tryz.func5, Tryz.ntmps5
   go_wp2_with (first
     | (at_builtin; refine wpList_append_k _ rfl (.tmp 11) (.tmp 12) 33 rfl 42 i0 (.agg #[.int .i64 0, .string ⟨#[]⟩, .slice none 0 0]) 3 48 Tryz.underlying33 hinfo hz0 hz1 hz2 rfl (by decide) w.heap.size _ 0 [] rfl (World.ownsRow_made w #[] 0 (Nat.le_refl _) (Nat.zero_le _) rfl) A a.length ca (a.flatMap clC) rfl HLa.out (cls_src (HA.out.later HW0.out)) (clCs_one a) (by unfold maxLen; omega) (by omega) (by simp) ?_; intro A1 c1 w1 hown1 hgrow1 _; simp only [Nat.zero_add, List.nil_append] at hown1; have HO1 := Lib.hid hown1; have HB1 := Lib.hid (HW0.out.grown hgrow1 (by simp) (fun k e => by injection e with e; exact Nat.le_of_eq e)); clear hown1 hgrow1)
     | (at_builtin; refine wpList_append_k _ rfl (.tmp 13) (.tmp 14) 33 rfl 42 i0 (.agg #[.int .i64 0, .string ⟨#[]⟩, .slice none 0 0]) 3 48 Tryz.underlying33 hinfo hz0 hz1 hz2 rfl (by decide) w.heap.size _ a.length (a.flatMap clC) rfl HO1.out B b.length cb (b.flatMap clC) rfl HLb.out (cls_src (HB.out.later HB1.out)) (clCs_one b) (by unfold maxLen; omega) (by omega) (by have := HB1.out.size; omega) ?_; intro A2 c2 w2 hown2 hgrow2 _; have HB2 := Lib.hid (HB1.out.grown hgrow2 HB1.out.size (fun k e => (HO1.out.lt k e).1)); have HO2 := Lib.hid hown2; clear hown2 hgrow2; have HC2 := Lib.hid (both_cls HO2.out (fun c hc => cls_fit (HA.out.later HB2.out) c hc) (fun c hc => cls_fit (HB.out.later HB2.out) c hc)); have HW2 := Lib.hid (below_alloc w2 (.cells #[] 42)); have HW3 := Lib.hid (HB2.out.alloc HB2.out.size (.cells #[] 42)))
     | (at_builtin; refine wpList_append_k _ rfl (.tmp 16) (.tmp 17) 33 rfl 42 i0 (.agg #[.int .i64 0, .string ⟨#[]⟩, .slice none 0 0]) 3 48 Tryz.underlying33 hinfo hz0 hz1 hz2 rfl (by decide) w2.heap.size _ 0 [] rfl (World.ownsRow_made w2 #[] 0 (Nat.le_refl _) (Nat.zero_le _) rfl) B b.length cb (b.flatMap clC) rfl HLb.out (cls_src (HB.out.later HW3.out)) (clCs_one b) (by unfold maxLen; omega) (by omega) (by simp) ?_; intro A3 c3 w3 hown3 hgrow3 _; simp only [Nat.zero_add, List.nil_append] at hown3; have HO3 := Lib.hid hown3; have HB3 := Lib.hid (HW2.out.grown hgrow3 (by simp) (fun k e => by injection e with e; exact Nat.le_of_eq e)); clear hown3 hgrow3)
     | (at_builtin; refine wpList_append_k _ rfl (.tmp 18) (.tmp 19) 33 rfl 42 i0 (.agg #[.int .i64 0, .string ⟨#[]⟩, .slice none 0 0]) 3 48 Tryz.underlying33 hinfo hz0 hz1 hz2 rfl (by decide) w2.heap.size _ b.length (b.flatMap clC) rfl HO3.out A a.length ca (a.flatMap clC) rfl HLa.out (cls_src (HA.out.later (HB2.out.trans (HB3.out.mono HB2.out.size)))) (clCs_one a) (by unfold maxLen; omega) (by omega) (by have := HB3.out.size; omega) ?_; intro A4 c4 w4 hown4 hgrow4 _; have HB4 := Lib.hid (HB3.out.grown hgrow4 HB3.out.size (fun k e => (HO3.out.lt k e).1)); have HBw := Lib.hid (HB2.out.trans (HB4.out.mono HB2.out.size)); have HO4 := Lib.hid hown4; clear hown4 hgrow4; have HC4 := Lib.hid (both_cls HO4.out (fun c hc => cls_fit (HB.out.later HBw.out) c hc) (fun c hc => cls_fit (HA.out.later HBw.out) c hc)); have HC24 := Lib.hid (HC2.out.later HB4.out))
     | (go_at_call 12; refine Calls.mono (by with_reducible exact HLi.out _ HBw.out) ?_; rintro e w5 ⟨rfl, hb⟩; have HBw5 := Lib.hid (HBw.out.trans (hb.mono HBw.out.size)); have HC45 := Lib.hid (HC4.out.later hb); have HC25 := Lib.hid (HC24.out.later hb); clear hb)
     | (go_at_call 22; refine Calls.mono (by with_reducible exact HMab.out _ A2 c2 HBw5.out HC25.out) ?_; rintro e w6 ⟨rfl, hb⟩; have HBw6 := Lib.hid (HBw5.out.trans (hb.mono HBw5.out.size)); have HC46 := Lib.hid (HC45.out.later hb); have HC26 := Lib.hid (HC25.out.later hb); clear hb HC45 HC25)
     | (go_at_call 22; refine Calls.mono (by with_reducible exact HMa.out _ HBw6.out) ?_; rintro e w7 ⟨rfl, hb⟩; have HBw7 := Lib.hid (HBw6.out.trans (hb.mono HBw6.out.size)); have HC47 := Lib.hid (HC46.out.later hb); have HC27 := Lib.hid (HC26.out.later hb); clear hb)
     | (go_at_call 22; refine Calls.mono (by with_reducible exact HMb.out _ HBw7.out) ?_; rintro e w8 ⟨rfl, hb⟩; have HBw8 := Lib.hid (HBw7.out.trans (hb.mono HBw7.out.size)); have HC48 := Lib.hid (HC47.out.later hb); have HC28 := Lib.hid (HC27.out.later hb); clear hb)
     | (go_at_call 22; (first | refine Calls.mono (by with_reducible exact HMab.out _ A2 c2 HBw8.out HC28.out) ?_ | refine Calls.mono (by with_reducible exact HMab.out _ A2 c2 HBw7.out HC27.out) ?_); rintro e w9 ⟨rfl, hb⟩; (first | have HBw9 := Lib.hid (HBw8.out.trans (hb.mono HBw8.out.size)) | have HBw9 := Lib.hid (HBw7.out.trans (hb.mono HBw7.out.size))); (first | have HC49 := Lib.hid (HC48.out.later hb) | have HC49 := Lib.hid (HC47.out.later hb)); clear hb)
     | (go_at_call 22; refine Calls.mono (by with_reducible exact HMba.out _ A4 c4 HBw9.out HC49.out) ?_; rintro e w10 ⟨rfl, hb⟩; have HBx := Lib.hid (HBw9.out.trans (hb.mono HBw9.out.size)); clear hb))
   clear HMab HMba HMa HMb HO1 HO2 HO3 HO4 HB1 HB2 HB3 HB4
   go_loopw [9, 10] (fun i p wr => ∃ k : Nat, k ≤ a.length ∧ i = .int .i64 (k : Int) ∧ Hid (Below w.heap.size w wr)) (fun i _ _ => a.length - (intOf i).toNat)
   case atStart => exact ⟨0, Nat.zero_le _, rfl, HBx⟩
   case round =>
     obtain ⟨k, hkl, rfl, HBr⟩ := hrel
     by_cases hlt : k < a.length
     · have hlt' : (k : Int) < (a.length : Int) := by omega
       have hk0 : (0 : Int) ≤ (k : Int) := by omega
       obtain ⟨b', o', rfl, c0', c1', c2', hfit⟩ := (HA.out.later HBr.out) k hlt
       have HKk := Lib.hid (HK.out a[k] (List.getElem_mem _))
       have HF := Lib.hid hfit
       clear hfit
       generalize hx : a[k] = x at *
       have HX := Lib.hid hx
       clear hx
       obtain ⟨kind, key, la, vals, lc⟩ := x
       simp only at c0' c1' c2' HKk
       have hkd := HKk.out
       have hk1 : (0 : Int) ≤ (k : Int) + 1 := by omega
       have hk63 : (k : Int) + 1 ≤ 9223372036854775807 := by omega
       have hkc : (k : Int) + 1 ≤ (ca : Int) := by omega
       have hkn : ((k : Int) + 1).toNat = k + 1 := by omega
       have hck : ¬ ca = k := by omega
       have hwr : IntKind.i64.wrap ((k : Int) + 1) = (k : Int) + 1 := by rw [IntKind.wrap_i64]; omega
       by_cases h1 : kind = 1
       · subst h1
         go_wp2_with fail
         have hH0 := heap_new wr (.cells #[.int .i64 2, strV key, .slice la vals.length lc] 42)
         have hB0 := HBr.out.alloc HBr.out.size (.cells #[.int .i64 2, strV key, .slice la vals.length lc] 42)
         have HFx := Lib.hid (fit_kind (HF.out.later (below_alloc wr (.cells #[.int .i64 2, strV key, .slice la vals.length lc] 42))) 2)
         have hg : wr.heap.size < (wr.alloc (.cells #[.int .i64 2, strV key, .slice la vals.length lc] 42)).heap.size := by simp
         generalize wr.alloc (.cells #[.int .i64 2, strV key, .slice la vals.length lc] 42) = W0 at *
         generalize wr.heap.size = g at *
         obtain ⟨d0, d1, d2⟩ : W0.cell? ⟨g, 0, none⟩ = some (.int .i64 2) ∧ W0.cell? ⟨g, 1, none⟩ = some (strV key) ∧ W0.cell? ⟨g, 2, none⟩ = some (.slice la vals.length lc) := by have hc := (cells_of_heap hH0).1; exact ⟨hc 0, hc 1, hc 2⟩
         have HB0 := Lib.hid hB0
         have HLT := Lib.hid hg
         have HQ : Hid (mClause l ⟨2, key, la, vals, lc⟩ = !mClause l ⟨1, key, la, vals, lc⟩) := Lib.hid (mCl_not l key la vals lc _ _ (by decide))
         have HM2 := Lib.hid (fun V gg d h1 h2 => HMx.out V gg d ⟨2, key, la, vals, lc⟩ h1 h2)
         have HM1 := Lib.hid (fun V gg d h1 h2 => HMx.out V gg d ⟨1, key, la, vals, lc⟩ h1 h2)
         have HC1 := Lib.hid (fun V (h : Below w.heap.size w V) => cls_one (HA.out.later h) hlt)
         rw [HX.out] at HC1
         rw [HQ.out] at HM2
         generalize mClause l ⟨1, key, la, vals, lc⟩ = q at *
         have HD : Hid (∀ V, Below W0.heap.size W0 V → (fun w' => w'.cell? ⟨g, 0, none⟩ = some (.int .i64 2) ∧ w'.cell? ⟨g, 1, none⟩ = some (strV key) ∧ w'.cell? ⟨g, 2, none⟩ = some (.slice la vals.length lc) ∧ Below W0.heap.size W0 w') V) := Lib.hid (fun V h => ⟨(h.cell (p := ⟨g, 0, none⟩) HLT.out).trans d0, (h.cell (p := ⟨g, 1, none⟩) HLT.out).trans d1, (h.cell (p := ⟨g, 2, none⟩) HLT.out).trans d2, h⟩)
         clear hH0 hB0 hg HQ
         refine wp_region_held_drew (S := (fun w' => w'.cell? ⟨g, 0, none⟩ = some (.int .i64 2) ∧ w'.cell? ⟨g, 1, none⟩ = some (strV key) ∧ w'.cell? ⟨g, 2, none⟩ = some (.slice la vals.length lc) ∧ Below W0.heap.size W0 w')) (by kernel_rfl) (HD.out _ (Below.refl _ _).drew) (fun hHeld => ?_)
         clear d0 d1 d2
         refine wpAnyH_take (i := 0) (v := ?vv73) rfl (by kernel_rfl) (by kernel_rfl) (by kernel_rfl) (fun _ _ _ h => h) (Or.inl ⟨by rfl, ?hy73⟩) hHeld ?rr73
         case hy73 => (intro w' hSw; obtain ⟨g0, g1, g2, g3⟩ := hSw; go_simp; try with_reducible rfl)
         try simp only [Act.put, List.setIfInBounds_toArray, List.set_cons_zero, List.set_cons_succ, List.getElem_toArray, List.getElem_cons_succ, List.getElem_cons_zero]
         refine wpAnyH_take (i := 2) (v := ?vv74) rfl (by kernel_rfl) (by kernel_rfl) (by kernel_rfl) (fun _ _ _ h => h) (Or.inl ⟨by rfl, ?hy74⟩) hHeld ?rr74
         case hy74 => (intro w' hSw; obtain ⟨g0, g1, g2, g3⟩ := hSw; go_simp; try with_reducible rfl)
         try simp only [Act.put, List.setIfInBounds_toArray, List.set_cons_zero, List.set_cons_succ, List.getElem_toArray, List.getElem_cons_succ, List.getElem_cons_zero]
         refine wpAnyH_take (i := 4) (v := ?vv75) rfl (by kernel_rfl) (by kernel_rfl) (by kernel_rfl) (fun _ _ _ h => h) (Or.inl ⟨by rfl, ?hy75⟩) hHeld ?rr75
         case hy75 => (intro w' hSw; obtain ⟨g0, g1, g2, g3⟩ := hSw; go_simp; try with_reducible rfl)
         try simp only [Act.put, List.setIfInBounds_toArray, List.set_cons_zero, List.set_cons_succ, List.getElem_toArray, List.getElem_cons_succ, List.getElem_cons_zero]
         refine wpAnyH_take (i := 5) (v := ?vv76) rfl (by kernel_rfl) (by kernel_rfl) (by kernel_rfl) (fun _ _ _ h => h) (Or.inl ⟨by rfl, ?hy76⟩) hHeld ?rr76
         case hy76 => (intro w' hSw; obtain ⟨g0, g1, g2, g3⟩ := hSw; go_simp; try with_reducible rfl)
         try simp only [Act.put, List.setIfInBounds_toArray, List.set_cons_zero, List.set_cons_succ, List.getElem_toArray, List.getElem_cons_succ, List.getElem_cons_zero]
         refine wpAnyH_take (i := 6) (v := ?vv77) rfl (by kernel_rfl) (by kernel_rfl) (by kernel_rfl) (fun _ _ _ h => h) (Or.inl ⟨by rfl, ?hy77⟩) hHeld ?rr77
         case hy77 => (intro w' hSw; obtain ⟨g0, g1, g2, g3⟩ := hSw; go_simp; try with_reducible rfl)
         try simp only [Act.put, List.setIfInBounds_toArray, List.set_cons_zero, List.set_cons_succ, List.getElem_toArray, List.getElem_cons_succ, List.getElem_cons_zero]
         refine wpAnyH_take (i := 7) (v := ?vv78) rfl (by kernel_rfl) (by kernel_rfl) (by kernel_rfl) (fun _ _ _ h => h) (Or.inl ⟨by rfl, ?hy78⟩) hHeld ?rr78
         case hy78 => (intro w' hSw; obtain ⟨g0, g1, g2, g3⟩ := hSw; go_simp; try with_reducible rfl)
         try simp only [Act.put, List.setIfInBounds_toArray, List.set_cons_zero, List.set_cons_succ, List.getElem_toArray, List.getElem_cons_succ, List.getElem_cons_zero]
         refine wpAnyH_take (i := 8) (v := ?vv79) rfl (by kernel_rfl) (by kernel_rfl) (by kernel_rfl) (fun _ _ _ h => h) (Or.inl ⟨by rfl, ?hy79⟩) hHeld ?rr79
         case hy79 => (intro w' hSw; obtain ⟨g0, g1, g2, g3⟩ := hSw; go_simp; try with_reducible rfl)
         try simp only [Act.put, List.setIfInBounds_toArray, List.set_cons_zero, List.set_cons_succ, List.getElem_toArray, List.getElem_cons_succ, List.getElem_cons_zero]
         refine wpAnyH_take (i := 9) (v := ?vv80) rfl (by kernel_rfl) (by kernel_rfl) (by kernel_rfl) (fun _ _ _ h => h) (Or.inl ⟨by rfl, ?hy80⟩) hHeld ?rr80
         case hy80 => (intro w' hSw; obtain ⟨g0, g1, g2, g3⟩ := hSw; go_simp; try with_reducible rfl)
         try simp only [Act.put, List.setIfInBounds_toArray, List.set_cons_zero, List.set_cons_succ, List.getElem_toArray, List.getElem_cons_succ, List.getElem_cons_zero]
         refine wpAnyH_ready (rs := [1]) (by kernel_rfl) (by simp) ?_
         refine AllReadyH.cons rfl (fun K hK => ?_) AllReadyH.nil
         go_simp
         have hB1 : Below W0.heap.size W0 (W0.alloc (.cells #[.int .i64 2, strV key, .slice la vals.length lc] 42)).drew := (below_alloc _ _).drew
         have hH1 : (W0.alloc (.cells #[.int .i64 2, strV key, .slice la vals.length lc] 42)).drew.heap[W0.heap.size]? = _ := heap_new W0 (.cells #[.int .i64 2, strV key, .slice la vals.length lc] 42)
         generalize (W0.alloc (.cells #[.int .i64 2, strV key, .slice la vals.length lc] 42)).drew = W1 at *
         refine hK.out _ _ (HD.out _ hB1) (fun hHeld2 => ?_)
         clear hK K hHeld
         have hHeld := hHeld2
         clear hHeld2
         try simp only [Act.put, List.setIfInBounds_toArray, List.set_cons_zero, List.set_cons_succ, List.getElem_toArray, List.getElem_cons_succ, List.getElem_cons_zero]
         refine wpAnyH_ready (rs := [3]) (by kernel_rfl) (by simp) ?_
         refine AllReadyH.cons rfl (fun K hK => ?_) AllReadyH.nil
         go_simp
         go_at_call 22
         refine Calls.mono (by with_reducible exact HM2.out _ _ _ (HB0.out.trans (hB1.mono HB0.out.size)) (cls_new hH1 (HFx.out.later hB1))) ?_
         rintro e W2 ⟨rfl, hb⟩
         have hB2 := hB1.trans (hb.mono hB1.size)
         clear hb hB1 hH1
         go_wp2_with fail
         refine hK.out _ _ (HD.out _ hB2) (fun hHeld2 => ?_)
         clear hK K hHeld
         have hHeld := hHeld2
         clear hHeld2
         try simp only [Act.put, List.setIfInBounds_toArray, List.set_cons_zero, List.set_cons_succ, List.getElem_toArray, List.getElem_cons_succ, List.getElem_cons_zero]
         refine wpAnyH_ready (rs := [10]) (by kernel_rfl) (by simp) ?_
         refine AllReadyH.cons rfl (fun K hK => ?_) AllReadyH.nil
         go_simp
         go_at_call 22
         refine Calls.mono (by with_reducible exact HM1.out _ _ _ (HB0.out.trans (hB2.mono HB0.out.size)) (HC1.out _ (HB0.out.trans (hB2.mono HB0.out.size)))) ?_
         rintro e W3 ⟨rfl, hb⟩
         have hB3 := hB2.trans (hb.mono hB2.size)
         clear hb hB2
         go_wp2_with fail
         refine hK.out _ _ (HD.out _ hB3) (fun hHeld2 => ?_)
         clear hK K hHeld
         have hHeld := hHeld2
         clear hHeld2
         try simp only [Act.put, List.setIfInBounds_toArray, List.set_cons_zero, List.set_cons_succ, List.getElem_toArray, List.getElem_cons_succ, List.getElem_cons_zero]
         refine wpAnyH_take (i := 11) (v := ?vv81) rfl (by kernel_rfl) (by kernel_rfl) (by kernel_rfl) (fun _ _ _ h => h) (Or.inl ⟨by rfl, ?hy81⟩) hHeld ?rr81
         case hy81 => (intro w' hSw; obtain ⟨g0, g1, g2, g3⟩ := hSw; go_simp; try with_reducible rfl)
         try simp only [Act.put, List.setIfInBounds_toArray, List.set_cons_zero, List.set_cons_succ, List.getElem_toArray, List.getElem_cons_succ, List.getElem_cons_zero]
         refine wpAnyH_done (by kernel_rfl) ?_ _
         clear hHeld
         have HB4 := Lib.hid (HB0.out.trans (hB3.mono HB0.out.size))
         clear hB3 HD HM1 HM2 HC1
         go_wp2
         go_roundw
         case rel => exact ⟨k + 1, by omega, by go_num, HB4⟩
         case measure => simp [intOf]; omega
       by_cases h2 : kind = 2
       · subst h2
         go_wp2_with fail
         have hH0 := heap_new wr (.cells #[.int .i64 1, strV key, .slice la vals.length lc] 42)
         have hB0 := HBr.out.alloc HBr.out.size (.cells #[.int .i64 1, strV key, .slice la vals.length lc] 42)
         have HFx := Lib.hid (fit_kind (HF.out.later (below_alloc wr (.cells #[.int .i64 1, strV key, .slice la vals.length lc] 42))) 1)
         have hg : wr.heap.size < (wr.alloc (.cells #[.int .i64 1, strV key, .slice la vals.length lc] 42)).heap.size := by simp
         generalize wr.alloc (.cells #[.int .i64 1, strV key, .slice la vals.length lc] 42) = W0 at *
         generalize wr.heap.size = g at *
         obtain ⟨d0, d1, d2⟩ : W0.cell? ⟨g, 0, none⟩ = some (.int .i64 1) ∧ W0.cell? ⟨g, 1, none⟩ = some (strV key) ∧ W0.cell? ⟨g, 2, none⟩ = some (.slice la vals.length lc) := by have hc := (cells_of_heap hH0).1; exact ⟨hc 0, hc 1, hc 2⟩
         have HB0 := Lib.hid hB0
         have HLT := Lib.hid hg
         have HQ : Hid (mClause l ⟨1, key, la, vals, lc⟩ = !mClause l ⟨2, key, la, vals, lc⟩) := Lib.hid (mCl_not l key la vals lc _ _ (by decide))
         have HM2 := Lib.hid (fun V gg d h1 h2 => HMx.out V gg d ⟨1, key, la, vals, lc⟩ h1 h2)
         have HM1 := Lib.hid (fun V gg d h1 h2 => HMx.out V gg d ⟨2, key, la, vals, lc⟩ h1 h2)
         have HC1 := Lib.hid (fun V (h : Below w.heap.size w V) => cls_one (HA.out.later h) hlt)
         rw [HX.out] at HC1
         rw [HQ.out] at HM2
         generalize mClause l ⟨2, key, la, vals, lc⟩ = q at *
         have HD : Hid (∀ V, Below W0.heap.size W0 V → (fun w' => w'.cell? ⟨g, 0, none⟩ = some (.int .i64 1) ∧ w'.cell? ⟨g, 1, none⟩ = some (strV key) ∧ w'.cell? ⟨g, 2, none⟩ = some (.slice la vals.length lc) ∧ Below W0.heap.size W0 w') V) := Lib.hid (fun V h => ⟨(h.cell (p := ⟨g, 0, none⟩) HLT.out).trans d0, (h.cell (p := ⟨g, 1, none⟩) HLT.out).trans d1, (h.cell (p := ⟨g, 2, none⟩) HLT.out).trans d2, h⟩)
         clear hH0 hB0 hg HQ
         refine wp_region_held_drew (S := (fun w' => w'.cell? ⟨g, 0, none⟩ = some (.int .i64 1) ∧ w'.cell? ⟨g, 1, none⟩ = some (strV key) ∧ w'.cell? ⟨g, 2, none⟩ = some (.slice la vals.length lc) ∧ Below W0.heap.size W0 w')) (by kernel_rfl) (HD.out _ (Below.refl _ _).drew) (fun hHeld => ?_)
         clear d0 d1 d2
         refine wpAnyH_take (i := 0) (v := ?vv82) rfl (by kernel_rfl) (by kernel_rfl) (by kernel_rfl) (fun _ _ _ h => h) (Or.inl ⟨by rfl, ?hy82⟩) hHeld ?rr82
         case hy82 => (intro w' hSw; obtain ⟨g0, g1, g2, g3⟩ := hSw; go_simp; try with_reducible rfl)
         try simp only [Act.put, List.setIfInBounds_toArray, List.set_cons_zero, List.set_cons_succ, List.getElem_toArray, List.getElem_cons_succ, List.getElem_cons_zero]
         refine wpAnyH_take (i := 2) (v := ?vv83) rfl (by kernel_rfl) (by kernel_rfl) (by kernel_rfl) (fun _ _ _ h => h) (Or.inl ⟨by rfl, ?hy83⟩) hHeld ?rr83
         case hy83 => (intro w' hSw; obtain ⟨g0, g1, g2, g3⟩ := hSw; go_simp; try with_reducible rfl)
         try simp only [Act.put, List.setIfInBounds_toArray, List.set_cons_zero, List.set_cons_succ, List.getElem_toArray, List.getElem_cons_succ, List.getElem_cons_zero]
         refine wpAnyH_take (i := 4) (v := ?vv84) rfl (by kernel_rfl) (by kernel_rfl) (by kernel_rfl) (fun _ _ _ h => h) (Or.inl ⟨by rfl, ?hy84⟩) hHeld ?rr84
         case hy84 => (intro w' hSw; obtain ⟨g0, g1, g2, g3⟩ := hSw; go_simp; try with_reducible rfl)
         try simp only [Act.put, List.setIfInBounds_toArray, List.set_cons_zero, List.set_cons_succ, List.getElem_toArray, List.getElem_cons_succ, List.getElem_cons_zero]
         refine wpAnyH_take (i := 5) (v := ?vv85) rfl (by kernel_rfl) (by kernel_rfl) (by kernel_rfl) (fun _ _ _ h => h) (Or.inl ⟨by rfl, ?hy85⟩) hHeld ?rr85
         case hy85 => (intro w' hSw; obtain ⟨g0, g1, g2, g3⟩ := hSw; go_simp; try with_reducible rfl)
         try simp only [Act.put, List.setIfInBounds_toArray, List.set_cons_zero, List.set_cons_succ, List.getElem_toArray, List.getElem_cons_succ, List.getElem_cons_zero]
         refine wpAnyH_take (i := 6) (v := ?vv86) rfl (by kernel_rfl) (by kernel_rfl) (by kernel_rfl) (fun _ _ _ h => h) (Or.inl ⟨by rfl, ?hy86⟩) hHeld ?rr86
         case hy86 => (intro w' hSw; obtain ⟨g0, g1, g2, g3⟩ := hSw; go_simp; try with_reducible rfl)
         try simp only [Act.put, List.setIfInBounds_toArray, List.set_cons_zero, List.set_cons_succ, List.getElem_toArray, List.getElem_cons_succ, List.getElem_cons_zero]
         refine wpAnyH_take (i := 7) (v := ?vv87) rfl (by kernel_rfl) (by kernel_rfl) (by kernel_rfl) (fun _ _ _ h => h) (Or.inl ⟨by rfl, ?hy87⟩) hHeld ?rr87
         case hy87 => (intro w' hSw; obtain ⟨g0, g1, g2, g3⟩ := hSw; go_simp; try with_reducible rfl)
         try simp only [Act.put, List.setIfInBounds_toArray, List.set_cons_zero, List.set_cons_succ, List.getElem_toArray, List.getElem_cons_succ, List.getElem_cons_zero]
         refine wpAnyH_take (i := 8) (v := ?vv88) rfl (by kernel_rfl) (by kernel_rfl) (by kernel_rfl) (fun _ _ _ h => h) (Or.inl ⟨by rfl, ?hy88⟩) hHeld ?rr88
         case hy88 => (intro w' hSw; obtain ⟨g0, g1, g2, g3⟩ := hSw; go_simp; try with_reducible rfl)
         try simp only [Act.put, List.setIfInBounds_toArray, List.set_cons_zero, List.set_cons_succ, List.getElem_toArray, List.getElem_cons_succ, List.getElem_cons_zero]
         refine wpAnyH_take (i := 9) (v := ?vv89) rfl (by kernel_rfl) (by kernel_rfl) (by kernel_rfl) (fun _ _ _ h => h) (Or.inl ⟨by rfl, ?hy89⟩) hHeld ?rr89
         case hy89 => (intro w' hSw; obtain ⟨g0, g1, g2, g3⟩ := hSw; go_simp; try with_reducible rfl)
         try simp only [Act.put, List.setIfInBounds_toArray, List.set_cons_zero, List.set_cons_succ, List.getElem_toArray, List.getElem_cons_succ, List.getElem_cons_zero]
         refine wpAnyH_ready (rs := [1]) (by kernel_rfl) (by simp) ?_
         refine AllReadyH.cons rfl (fun K hK => ?_) AllReadyH.nil
         go_simp
         have hB1 : Below W0.heap.size W0 (W0.alloc (.cells #[.int .i64 1, strV key, .slice la vals.length lc] 42)).drew := (below_alloc _ _).drew
         have hH1 : (W0.alloc (.cells #[.int .i64 1, strV key, .slice la vals.length lc] 42)).drew.heap[W0.heap.size]? = _ := heap_new W0 (.cells #[.int .i64 1, strV key, .slice la vals.length lc] 42)
         generalize (W0.alloc (.cells #[.int .i64 1, strV key, .slice la vals.length lc] 42)).drew = W1 at *
         refine hK.out _ _ (HD.out _ hB1) (fun hHeld2 => ?_)
         clear hK K hHeld
         have hHeld := hHeld2
         clear hHeld2
         try simp only [Act.put, List.setIfInBounds_toArray, List.set_cons_zero, List.set_cons_succ, List.getElem_toArray, List.getElem_cons_succ, List.getElem_cons_zero]
         refine wpAnyH_ready (rs := [3]) (by kernel_rfl) (by simp) ?_
         refine AllReadyH.cons rfl (fun K hK => ?_) AllReadyH.nil
         go_simp
         go_at_call 22
         refine Calls.mono (by with_reducible exact HM2.out _ _ _ (HB0.out.trans (hB1.mono HB0.out.size)) (cls_new hH1 (HFx.out.later hB1))) ?_
         rintro e W2 ⟨rfl, hb⟩
         have hB2 := hB1.trans (hb.mono hB1.size)
         clear hb hB1 hH1
         go_wp2_with fail
         refine hK.out _ _ (HD.out _ hB2) (fun hHeld2 => ?_)
         clear hK K hHeld
         have hHeld := hHeld2
         clear hHeld2
         try simp only [Act.put, List.setIfInBounds_toArray, List.set_cons_zero, List.set_cons_succ, List.getElem_toArray, List.getElem_cons_succ, List.getElem_cons_zero]
         refine wpAnyH_ready (rs := [10]) (by kernel_rfl) (by simp) ?_
         refine AllReadyH.cons rfl (fun K hK => ?_) AllReadyH.nil
         go_simp
         go_at_call 22
         refine Calls.mono (by with_reducible exact HM1.out _ _ _ (HB0.out.trans (hB2.mono HB0.out.size)) (HC1.out _ (HB0.out.trans (hB2.mono HB0.out.size)))) ?_
         rintro e W3 ⟨rfl, hb⟩
         have hB3 := hB2.trans (hb.mono hB2.size)
         clear hb hB2
         go_wp2_with fail
         refine hK.out _ _ (HD.out _ hB3) (fun hHeld2 => ?_)
         clear hK K hHeld
         have hHeld := hHeld2
         clear hHeld2
         try simp only [Act.put, List.setIfInBounds_toArray, List.set_cons_zero, List.set_cons_succ, List.getElem_toArray, List.getElem_cons_succ, List.getElem_cons_zero]
         refine wpAnyH_take (i := 11) (v := ?vv90) rfl (by kernel_rfl) (by kernel_rfl) (by kernel_rfl) (fun _ _ _ h => h) (Or.inl ⟨by rfl, ?hy90⟩) hHeld ?rr90
         case hy90 => (intro w' hSw; obtain ⟨g0, g1, g2, g3⟩ := hSw; go_simp; try with_reducible rfl)
         try simp only [Act.put, List.setIfInBounds_toArray, List.set_cons_zero, List.set_cons_succ, List.getElem_toArray, List.getElem_cons_succ, List.getElem_cons_zero]
         refine wpAnyH_done (by kernel_rfl) ?_ _
         clear hHeld
         have HB4 := Lib.hid (HB0.out.trans (hB3.mono HB0.out.size))
         clear hB3 HD HM1 HM2 HC1
         go_wp2
         go_roundw
         case rel => exact ⟨k + 1, by omega, by go_num, HB4⟩
         case measure => simp [intOf]; omega
       by_cases h3 : kind = 3
       · subst h3
         go_wp2_with fail
         have hH0 := heap_new wr (.cells #[.int .i64 4, strV key, .slice la vals.length lc] 42)
         have hB0 := HBr.out.alloc HBr.out.size (.cells #[.int .i64 4, strV key, .slice la vals.length lc] 42)
         have HFx := Lib.hid (fit_kind (HF.out.later (below_alloc wr (.cells #[.int .i64 4, strV key, .slice la vals.length lc] 42))) 4)
         have hg : wr.heap.size < (wr.alloc (.cells #[.int .i64 4, strV key, .slice la vals.length lc] 42)).heap.size := by simp
         generalize wr.alloc (.cells #[.int .i64 4, strV key, .slice la vals.length lc] 42) = W0 at *
         generalize wr.heap.size = g at *
         obtain ⟨d0, d1, d2⟩ : W0.cell? ⟨g, 0, none⟩ = some (.int .i64 4) ∧ W0.cell? ⟨g, 1, none⟩ = some (strV key) ∧ W0.cell? ⟨g, 2, none⟩ = some (.slice la vals.length lc) := by have hc := (cells_of_heap hH0).1; exact ⟨hc 0, hc 1, hc 2⟩
         have HB0 := Lib.hid hB0
         have HLT := Lib.hid hg
         have HQ : Hid (mClause l ⟨4, key, la, vals, lc⟩ = !mClause l ⟨3, key, la, vals, lc⟩) := Lib.hid (mCl_not l key la vals lc _ _ (by decide))
         have HM2 := Lib.hid (fun V gg d h1 h2 => HMx.out V gg d ⟨4, key, la, vals, lc⟩ h1 h2)
         have HM1 := Lib.hid (fun V gg d h1 h2 => HMx.out V gg d ⟨3, key, la, vals, lc⟩ h1 h2)
         have HC1 := Lib.hid (fun V (h : Below w.heap.size w V) => cls_one (HA.out.later h) hlt)
         rw [HX.out] at HC1
         rw [HQ.out] at HM2
         generalize mClause l ⟨3, key, la, vals, lc⟩ = q at *
         have HD : Hid (∀ V, Below W0.heap.size W0 V → (fun w' => w'.cell? ⟨g, 0, none⟩ = some (.int .i64 4) ∧ w'.cell? ⟨g, 1, none⟩ = some (strV key) ∧ w'.cell? ⟨g, 2, none⟩ = some (.slice la vals.length lc) ∧ Below W0.heap.size W0 w') V) := Lib.hid (fun V h => ⟨(h.cell (p := ⟨g, 0, none⟩) HLT.out).trans d0, (h.cell (p := ⟨g, 1, none⟩) HLT.out).trans d1, (h.cell (p := ⟨g, 2, none⟩) HLT.out).trans d2, h⟩)
         clear hH0 hB0 hg HQ
         refine wp_region_held_drew (S := (fun w' => w'.cell? ⟨g, 0, none⟩ = some (.int .i64 4) ∧ w'.cell? ⟨g, 1, none⟩ = some (strV key) ∧ w'.cell? ⟨g, 2, none⟩ = some (.slice la vals.length lc) ∧ Below W0.heap.size W0 w')) (by kernel_rfl) (HD.out _ (Below.refl _ _).drew) (fun hHeld => ?_)
         clear d0 d1 d2
         refine wpAnyH_take (i := 0) (v := ?vv91) rfl (by kernel_rfl) (by kernel_rfl) (by kernel_rfl) (fun _ _ _ h => h) (Or.inl ⟨by rfl, ?hy91⟩) hHeld ?rr91
         case hy91 => (intro w' hSw; obtain ⟨g0, g1, g2, g3⟩ := hSw; go_simp; try with_reducible rfl)
         try simp only [Act.put, List.setIfInBounds_toArray, List.set_cons_zero, List.set_cons_succ, List.getElem_toArray, List.getElem_cons_succ, List.getElem_cons_zero]
         refine wpAnyH_take (i := 2) (v := ?vv92) rfl (by kernel_rfl) (by kernel_rfl) (by kernel_rfl) (fun _ _ _ h => h) (Or.inl ⟨by rfl, ?hy92⟩) hHeld ?rr92
         case hy92 => (intro w' hSw; obtain ⟨g0, g1, g2, g3⟩ := hSw; go_simp; try with_reducible rfl)
         try simp only [Act.put, List.setIfInBounds_toArray, List.set_cons_zero, List.set_cons_succ, List.getElem_toArray, List.getElem_cons_succ, List.getElem_cons_zero]
         refine wpAnyH_take (i := 4) (v := ?vv93) rfl (by kernel_rfl) (by kernel_rfl) (by kernel_rfl) (fun _ _ _ h => h) (Or.inl ⟨by rfl, ?hy93⟩) hHeld ?rr93
         case hy93 => (intro w' hSw; obtain ⟨g0, g1, g2, g3⟩ := hSw; go_simp; try with_reducible rfl)
         try simp only [Act.put, List.setIfInBounds_toArray, List.set_cons_zero, List.set_cons_succ, List.getElem_toArray, List.getElem_cons_succ, List.getElem_cons_zero]
         refine wpAnyH_take (i := 5) (v := ?vv94) rfl (by kernel_rfl) (by kernel_rfl) (by kernel_rfl) (fun _ _ _ h => h) (Or.inl ⟨by rfl, ?hy94⟩) hHeld ?rr94
         case hy94 => (intro w' hSw; obtain ⟨g0, g1, g2, g3⟩ := hSw; go_simp; try with_reducible rfl)
         try simp only [Act.put, List.setIfInBounds_toArray, List.set_cons_zero, List.set_cons_succ, List.getElem_toArray, List.getElem_cons_succ, List.getElem_cons_zero]
         refine wpAnyH_take (i := 6) (v := ?vv95) rfl (by kernel_rfl) (by kernel_rfl) (by kernel_rfl) (fun _ _ _ h => h) (Or.inl ⟨by rfl, ?hy95⟩) hHeld ?rr95
         case hy95 => (intro w' hSw; obtain ⟨g0, g1, g2, g3⟩ := hSw; go_simp; try with_reducible rfl)
         try simp only [Act.put, List.setIfInBounds_toArray, List.set_cons_zero, List.set_cons_succ, List.getElem_toArray, List.getElem_cons_succ, List.getElem_cons_zero]
         refine wpAnyH_take (i := 7) (v := ?vv96) rfl (by kernel_rfl) (by kernel_rfl) (by kernel_rfl) (fun _ _ _ h => h) (Or.inl ⟨by rfl, ?hy96⟩) hHeld ?rr96
         case hy96 => (intro w' hSw; obtain ⟨g0, g1, g2, g3⟩ := hSw; go_simp; try with_reducible rfl)
         try simp only [Act.put, List.setIfInBounds_toArray, List.set_cons_zero, List.set_cons_succ, List.getElem_toArray, List.getElem_cons_succ, List.getElem_cons_zero]
         refine wpAnyH_take (i := 8) (v := ?vv97) rfl (by kernel_rfl) (by kernel_rfl) (by kernel_rfl) (fun _ _ _ h => h) (Or.inl ⟨by rfl, ?hy97⟩) hHeld ?rr97
         case hy97 => (intro w' hSw; obtain ⟨g0, g1, g2, g3⟩ := hSw; go_simp; try with_reducible rfl)
         try simp only [Act.put, List.setIfInBounds_toArray, List.set_cons_zero, List.set_cons_succ, List.getElem_toArray, List.getElem_cons_succ, List.getElem_cons_zero]
         refine wpAnyH_take (i := 9) (v := ?vv98) rfl (by kernel_rfl) (by kernel_rfl) (by kernel_rfl) (fun _ _ _ h => h) (Or.inl ⟨by rfl, ?hy98⟩) hHeld ?rr98
         case hy98 => (intro w' hSw; obtain ⟨g0, g1, g2, g3⟩ := hSw; go_simp; try with_reducible rfl)
         try simp only [Act.put, List.setIfInBounds_toArray, List.set_cons_zero, List.set_cons_succ, List.getElem_toArray, List.getElem_cons_succ, List.getElem_cons_zero]
         refine wpAnyH_ready (rs := [1]) (by kernel_rfl) (by simp) ?_
         refine AllReadyH.cons rfl (fun K hK => ?_) AllReadyH.nil
         go_simp
         have hB1 : Below W0.heap.size W0 (W0.alloc (.cells #[.int .i64 4, strV key, .slice la vals.length lc] 42)).drew := (below_alloc _ _).drew
         have hH1 : (W0.alloc (.cells #[.int .i64 4, strV key, .slice la vals.length lc] 42)).drew.heap[W0.heap.size]? = _ := heap_new W0 (.cells #[.int .i64 4, strV key, .slice la vals.length lc] 42)
         generalize (W0.alloc (.cells #[.int .i64 4, strV key, .slice la vals.length lc] 42)).drew = W1 at *
         refine hK.out _ _ (HD.out _ hB1) (fun hHeld2 => ?_)
         clear hK K hHeld
         have hHeld := hHeld2
         clear hHeld2
         try simp only [Act.put, List.setIfInBounds_toArray, List.set_cons_zero, List.set_cons_succ, List.getElem_toArray, List.getElem_cons_succ, List.getElem_cons_zero]
         refine wpAnyH_ready (rs := [3]) (by kernel_rfl) (by simp) ?_
         refine AllReadyH.cons rfl (fun K hK => ?_) AllReadyH.nil
         go_simp
         go_at_call 22
         refine Calls.mono (by with_reducible exact HM2.out _ _ _ (HB0.out.trans (hB1.mono HB0.out.size)) (cls_new hH1 (HFx.out.later hB1))) ?_
         rintro e W2 ⟨rfl, hb⟩
         have hB2 := hB1.trans (hb.mono hB1.size)
         clear hb hB1 hH1
         go_wp2_with fail
         refine hK.out _ _ (HD.out _ hB2) (fun hHeld2 => ?_)
         clear hK K hHeld
         have hHeld := hHeld2
         clear hHeld2
         try simp only [Act.put, List.setIfInBounds_toArray, List.set_cons_zero, List.set_cons_succ, List.getElem_toArray, List.getElem_cons_succ, List.getElem_cons_zero]
         refine wpAnyH_ready (rs := [10]) (by kernel_rfl) (by simp) ?_
         refine AllReadyH.cons rfl (fun K hK => ?_) AllReadyH.nil
         go_simp
         go_at_call 22
         refine Calls.mono (by with_reducible exact HM1.out _ _ _ (HB0.out.trans (hB2.mono HB0.out.size)) (HC1.out _ (HB0.out.trans (hB2.mono HB0.out.size)))) ?_
         rintro e W3 ⟨rfl, hb⟩
         have hB3 := hB2.trans (hb.mono hB2.size)
         clear hb hB2
         go_wp2_with fail
         refine hK.out _ _ (HD.out _ hB3) (fun hHeld2 => ?_)
         clear hK K hHeld
         have hHeld := hHeld2
         clear hHeld2
         try simp only [Act.put, List.setIfInBounds_toArray, List.set_cons_zero, List.set_cons_succ, List.getElem_toArray, List.getElem_cons_succ, List.getElem_cons_zero]
         refine wpAnyH_take (i := 11) (v := ?vv99) rfl (by kernel_rfl) (by kernel_rfl) (by kernel_rfl) (fun _ _ _ h => h) (Or.inl ⟨by rfl, ?hy99⟩) hHeld ?rr99
         case hy99 => (intro w' hSw; obtain ⟨g0, g1, g2, g3⟩ := hSw; go_simp; try with_reducible rfl)
         try simp only [Act.put, List.setIfInBounds_toArray, List.set_cons_zero, List.set_cons_succ, List.getElem_toArray, List.getElem_cons_succ, List.getElem_cons_zero]
         refine wpAnyH_done (by kernel_rfl) ?_ _
         clear hHeld
         have HB4 := Lib.hid (HB0.out.trans (hB3.mono HB0.out.size))
         clear hB3 HD HM1 HM2 HC1
         go_wp2
         go_roundw
         case rel => exact ⟨k + 1, by omega, by go_num, HB4⟩
         case measure => simp [intOf]; omega
       by_cases h4 : kind = 4
       · subst h4
         go_wp2_with fail
         have hH0 := heap_new wr (.cells #[.int .i64 3, strV key, .slice la vals.length lc] 42)
         have hB0 := HBr.out.alloc HBr.out.size (.cells #[.int .i64 3, strV key, .slice la vals.length lc] 42)
         have HFx := Lib.hid (fit_kind (HF.out.later (below_alloc wr (.cells #[.int .i64 3, strV key, .slice la vals.length lc] 42))) 3)
         have hg : wr.heap.size < (wr.alloc (.cells #[.int .i64 3, strV key, .slice la vals.length lc] 42)).heap.size := by simp
         generalize wr.alloc (.cells #[.int .i64 3, strV key, .slice la vals.length lc] 42) = W0 at *
         generalize wr.heap.size = g at *
         obtain ⟨d0, d1, d2⟩ : W0.cell? ⟨g, 0, none⟩ = some (.int .i64 3) ∧ W0.cell? ⟨g, 1, none⟩ = some (strV key) ∧ W0.cell? ⟨g, 2, none⟩ = some (.slice la vals.length lc) := by have hc := (cells_of_heap hH0).1; exact ⟨hc 0, hc 1, hc 2⟩
         have HB0 := Lib.hid hB0
         have HLT := Lib.hid hg
         have HQ : Hid (mClause l ⟨3, key, la, vals, lc⟩ = !mClause l ⟨4, key, la, vals, lc⟩) := Lib.hid (mCl_not l key la vals lc _ _ (by decide))
         have HM2 := Lib.hid (fun V gg d h1 h2 => HMx.out V gg d ⟨3, key, la, vals, lc⟩ h1 h2)
         have HM1 := Lib.hid (fun V gg d h1 h2 => HMx.out V gg d ⟨4, key, la, vals, lc⟩ h1 h2)
         have HC1 := Lib.hid (fun V (h : Below w.heap.size w V) => cls_one (HA.out.later h) hlt)
         rw [HX.out] at HC1
         rw [HQ.out] at HM2
         generalize mClause l ⟨4, key, la, vals, lc⟩ = q at *
         have HD : Hid (∀ V, Below W0.heap.size W0 V → (fun w' => w'.cell? ⟨g, 0, none⟩ = some (.int .i64 3) ∧ w'.cell? ⟨g, 1, none⟩ = some (strV key) ∧ w'.cell? ⟨g, 2, none⟩ = some (.slice la vals.length lc) ∧ Below W0.heap.size W0 w') V) := Lib.hid (fun V h => ⟨(h.cell (p := ⟨g, 0, none⟩) HLT.out).trans d0, (h.cell (p := ⟨g, 1, none⟩) HLT.out).trans d1, (h.cell (p := ⟨g, 2, none⟩) HLT.out).trans d2, h⟩)
         clear hH0 hB0 hg HQ
         refine wp_region_held_drew (S := (fun w' => w'.cell? ⟨g, 0, none⟩ = some (.int .i64 3) ∧ w'.cell? ⟨g, 1, none⟩ = some (strV key) ∧ w'.cell? ⟨g, 2, none⟩ = some (.slice la vals.length lc) ∧ Below W0.heap.size W0 w')) (by kernel_rfl) (HD.out _ (Below.refl _ _).drew) (fun hHeld => ?_)
         clear d0 d1 d2
         refine wpAnyH_take (i := 0) (v := ?vv100) rfl (by kernel_rfl) (by kernel_rfl) (by kernel_rfl) (fun _ _ _ h => h) (Or.inl ⟨by rfl, ?hy100⟩) hHeld ?rr100
         case hy100 => (intro w' hSw; obtain ⟨g0, g1, g2, g3⟩ := hSw; go_simp; try with_reducible rfl)
         try simp only [Act.put, List.setIfInBounds_toArray, List.set_cons_zero, List.set_cons_succ, List.getElem_toArray, List.getElem_cons_succ, List.getElem_cons_zero]
         refine wpAnyH_take (i := 2) (v := ?vv101) rfl (by kernel_rfl) (by kernel_rfl) (by kernel_rfl) (fun _ _ _ h => h) (Or.inl ⟨by rfl, ?hy101⟩) hHeld ?rr101
         case hy101 => (intro w' hSw; obtain ⟨g0, g1, g2, g3⟩ := hSw; go_simp; try with_reducible rfl)
         try simp only [Act.put, List.setIfInBounds_toArray, List.set_cons_zero, List.set_cons_succ, List.getElem_toArray, List.getElem_cons_succ, List.getElem_cons_zero]
         refine wpAnyH_take (i := 4) (v := ?vv102) rfl (by kernel_rfl) (by kernel_rfl) (by kernel_rfl) (fun _ _ _ h => h) (Or.inl ⟨by rfl, ?hy102⟩) hHeld ?rr102
         case hy102 => (intro w' hSw; obtain ⟨g0, g1, g2, g3⟩ := hSw; go_simp; try with_reducible rfl)
         try simp only [Act.put, List.setIfInBounds_toArray, List.set_cons_zero, List.set_cons_succ, List.getElem_toArray, List.getElem_cons_succ, List.getElem_cons_zero]
         refine wpAnyH_take (i := 5) (v := ?vv103) rfl (by kernel_rfl) (by kernel_rfl) (by kernel_rfl) (fun _ _ _ h => h) (Or.inl ⟨by rfl, ?hy103⟩) hHeld ?rr103
         case hy103 => (intro w' hSw; obtain ⟨g0, g1, g2, g3⟩ := hSw; go_simp; try with_reducible rfl)
         try simp only [Act.put, List.setIfInBounds_toArray, List.set_cons_zero, List.set_cons_succ, List.getElem_toArray, List.getElem_cons_succ, List.getElem_cons_zero]
         refine wpAnyH_take (i := 6) (v := ?vv104) rfl (by kernel_rfl) (by kernel_rfl) (by kernel_rfl) (fun _ _ _ h => h) (Or.inl ⟨by rfl, ?hy104⟩) hHeld ?rr104
         case hy104 => (intro w' hSw; obtain ⟨g0, g1, g2, g3⟩ := hSw; go_simp; try with_reducible rfl)
         try simp only [Act.put, List.setIfInBounds_toArray, List.set_cons_zero, List.set_cons_succ, List.getElem_toArray, List.getElem_cons_succ, List.getElem_cons_zero]
         refine wpAnyH_take (i := 7) (v := ?vv105) rfl (by kernel_rfl) (by kernel_rfl) (by kernel_rfl) (fun _ _ _ h => h) (Or.inl ⟨by rfl, ?hy105⟩) hHeld ?rr105
         case hy105 => (intro w' hSw; obtain ⟨g0, g1, g2, g3⟩ := hSw; go_simp; try with_reducible rfl)
         try simp only [Act.put, List.setIfInBounds_toArray, List.set_cons_zero, List.set_cons_succ, List.getElem_toArray, List.getElem_cons_succ, List.getElem_cons_zero]
         refine wpAnyH_take (i := 8) (v := ?vv106) rfl (by kernel_rfl) (by kernel_rfl) (by kernel_rfl) (fun _ _ _ h => h) (Or.inl ⟨by rfl, ?hy106⟩) hHeld ?rr106
         case hy106 => (intro w' hSw; obtain ⟨g0, g1, g2, g3⟩ := hSw; go_simp; try with_reducible rfl)
         try simp only [Act.put, List.setIfInBounds_toArray, List.set_cons_zero, List.set_cons_succ, List.getElem_toArray, List.getElem_cons_succ, List.getElem_cons_zero]
         refine wpAnyH_take (i := 9) (v := ?vv107) rfl (by kernel_rfl) (by kernel_rfl) (by kernel_rfl) (fun _ _ _ h => h) (Or.inl ⟨by rfl, ?hy107⟩) hHeld ?rr107
         case hy107 => (intro w' hSw; obtain ⟨g0, g1, g2, g3⟩ := hSw; go_simp; try with_reducible rfl)
         try simp only [Act.put, List.setIfInBounds_toArray, List.set_cons_zero, List.set_cons_succ, List.getElem_toArray, List.getElem_cons_succ, List.getElem_cons_zero]
         refine wpAnyH_ready (rs := [1]) (by kernel_rfl) (by simp) ?_
         refine AllReadyH.cons rfl (fun K hK => ?_) AllReadyH.nil
         go_simp
         have hB1 : Below W0.heap.size W0 (W0.alloc (.cells #[.int .i64 3, strV key, .slice la vals.length lc] 42)).drew := (below_alloc _ _).drew
         have hH1 : (W0.alloc (.cells #[.int .i64 3, strV key, .slice la vals.length lc] 42)).drew.heap[W0.heap.size]? = _ := heap_new W0 (.cells #[.int .i64 3, strV key, .slice la vals.length lc] 42)
         generalize (W0.alloc (.cells #[.int .i64 3, strV key, .slice la vals.length lc] 42)).drew = W1 at *
         refine hK.out _ _ (HD.out _ hB1) (fun hHeld2 => ?_)
         clear hK K hHeld
         have hHeld := hHeld2
         clear hHeld2
         try simp only [Act.put, List.setIfInBounds_toArray, List.set_cons_zero, List.set_cons_succ, List.getElem_toArray, List.getElem_cons_succ, List.getElem_cons_zero]
         refine wpAnyH_ready (rs := [3]) (by kernel_rfl) (by simp) ?_
         refine AllReadyH.cons rfl (fun K hK => ?_) AllReadyH.nil
         go_simp
         go_at_call 22
         refine Calls.mono (by with_reducible exact HM2.out _ _ _ (HB0.out.trans (hB1.mono HB0.out.size)) (cls_new hH1 (HFx.out.later hB1))) ?_
         rintro e W2 ⟨rfl, hb⟩
         have hB2 := hB1.trans (hb.mono hB1.size)
         clear hb hB1 hH1
         go_wp2_with fail
         refine hK.out _ _ (HD.out _ hB2) (fun hHeld2 => ?_)
         clear hK K hHeld
         have hHeld := hHeld2
         clear hHeld2
         try simp only [Act.put, List.setIfInBounds_toArray, List.set_cons_zero, List.set_cons_succ, List.getElem_toArray, List.getElem_cons_succ, List.getElem_cons_zero]
         refine wpAnyH_ready (rs := [10]) (by kernel_rfl) (by simp) ?_
         refine AllReadyH.cons rfl (fun K hK => ?_) AllReadyH.nil
         go_simp
         go_at_call 22
         refine Calls.mono (by with_reducible exact HM1.out _ _ _ (HB0.out.trans (hB2.mono HB0.out.size)) (HC1.out _ (HB0.out.trans (hB2.mono HB0.out.size)))) ?_
         rintro e W3 ⟨rfl, hb⟩
         have hB3 := hB2.trans (hb.mono hB2.size)
         clear hb hB2
         go_wp2_with fail
         refine hK.out _ _ (HD.out _ hB3) (fun hHeld2 => ?_)
         clear hK K hHeld
         have hHeld := hHeld2
         clear hHeld2
         try simp only [Act.put, List.setIfInBounds_toArray, List.set_cons_zero, List.set_cons_succ, List.getElem_toArray, List.getElem_cons_succ, List.getElem_cons_zero]
         refine wpAnyH_take (i := 11) (v := ?vv108) rfl (by kernel_rfl) (by kernel_rfl) (by kernel_rfl) (fun _ _ _ h => h) (Or.inl ⟨by rfl, ?hy108⟩) hHeld ?rr108
         case hy108 => (intro w' hSw; obtain ⟨g0, g1, g2, g3⟩ := hSw; go_simp; try with_reducible rfl)
         try simp only [Act.put, List.setIfInBounds_toArray, List.set_cons_zero, List.set_cons_succ, List.getElem_toArray, List.getElem_cons_succ, List.getElem_cons_zero]
         refine wpAnyH_done (by kernel_rfl) ?_ _
         clear hHeld
         have HB4 := Lib.hid (HB0.out.trans (hB3.mono HB0.out.size))
         clear hB3 HD HM1 HM2 HC1
         go_wp2
         go_roundw
         case rel => exact ⟨k + 1, by omega, by go_num, HB4⟩
         case measure => simp [intOf]; omega
       have e1 : (kind == 1) = false := by simpa using h1
       have e2 : (kind == 2) = false := by simpa using h2
       have e3 : (kind == 3) = false := by simpa using h3
       have e4 : (kind == 4) = false := by simpa using h4
       clear hk1 hk63 hkc hkn hck hwr HKk hkd HX HF HMx HLi
       have HB4 := Lib.hid (fun o => HBr.out.alloc HBr.out.size o)
       go_wp2
       go_roundw
       case rel => exact ⟨k + 1, by omega, by go_num, Lib.hid (HB4.out _)⟩
       case measure => simp [intOf]; omega
     · obtain rfl : k = a.length := by omega
       go_wp2
       go_ret
       exact ⟨rfl, HBr.out⟩
  case true.true =>
   simp only [e0, e1, e2, e3] at HMab HMba
   clear e0 e1 e2 e3
   go_enter Tryz.func5, Tryz.ntmps5
   go_wp2_with (first
     | (at_builtin; refine wpList_append_k _ rfl (.tmp 11) (.tmp 12) 33 rfl 42 i0 (.agg #[.int .i64 0, .string ⟨#[]⟩, .slice none 0 0]) 3 48 Tryz.underlying33 hinfo hz0 hz1 hz2 rfl (by decide) w.heap.size _ 0 [] rfl (World.ownsRow_made w #[] 0 (Nat.le_refl _) (Nat.zero_le _) rfl) A a.length ca (a.flatMap clC) rfl HLa.out (cls_src (HA.out.later HW0.out)) (clCs_one a) (by unfold maxLen; omega) (by omega) (by simp) ?_; intro A1 c1 w1 hown1 hgrow1 _; simp only [Nat.zero_add, List.nil_append] at hown1; have HO1 := Lib.hid hown1; have HB1 := Lib.hid (HW0.out.grown hgrow1 (by simp) (fun k e => by injection e with e; exact Nat.le_of_eq e)); clear hown1 hgrow1)
     | (at_builtin; refine wpList_append_k _ rfl (.tmp 13) (.tmp 14) 33 rfl 42 i0 (.agg #[.int .i64 0, .string ⟨#[]⟩, .slice none 0 0]) 3 48 Tryz.underlying33 hinfo hz0 hz1 hz2 rfl (by decide) w.heap.size _ a.length (a.flatMap clC) rfl HO1.out B b.length cb (b.flatMap clC) rfl HLb.out (cls_src (HB.out.later HB1.out)) (clCs_one b) (by unfold maxLen; omega) (by omega) (by have := HB1.out.size; omega) ?_; intro A2 c2 w2 hown2 hgrow2 _; have HB2 := Lib.hid (HB1.out.grown hgrow2 HB1.out.size (fun k e => (HO1.out.lt k e).1)); have HO2 := Lib.hid hown2; clear hown2 hgrow2; have HC2 := Lib.hid (both_cls HO2.out (fun c hc => cls_fit (HA.out.later HB2.out) c hc) (fun c hc => cls_fit (HB.out.later HB2.out) c hc)); have HW2 := Lib.hid (below_alloc w2 (.cells #[] 42)); have HW3 := Lib.hid (HB2.out.alloc HB2.out.size (.cells #[] 42)))
     | (at_builtin; refine wpList_append_k _ rfl (.tmp 16) (.tmp 17) 33 rfl 42 i0 (.agg #[.int .i64 0, .string ⟨#[]⟩, .slice none 0 0]) 3 48 Tryz.underlying33 hinfo hz0 hz1 hz2 rfl (by decide) w2.heap.size _ 0 [] rfl (World.ownsRow_made w2 #[] 0 (Nat.le_refl _) (Nat.zero_le _) rfl) B b.length cb (b.flatMap clC) rfl HLb.out (cls_src (HB.out.later HW3.out)) (clCs_one b) (by unfold maxLen; omega) (by omega) (by simp) ?_; intro A3 c3 w3 hown3 hgrow3 _; simp only [Nat.zero_add, List.nil_append] at hown3; have HO3 := Lib.hid hown3; have HB3 := Lib.hid (HW2.out.grown hgrow3 (by simp) (fun k e => by injection e with e; exact Nat.le_of_eq e)); clear hown3 hgrow3)
     | (at_builtin; refine wpList_append_k _ rfl (.tmp 18) (.tmp 19) 33 rfl 42 i0 (.agg #[.int .i64 0, .string ⟨#[]⟩, .slice none 0 0]) 3 48 Tryz.underlying33 hinfo hz0 hz1 hz2 rfl (by decide) w2.heap.size _ b.length (b.flatMap clC) rfl HO3.out A a.length ca (a.flatMap clC) rfl HLa.out (cls_src (HA.out.later (HB2.out.trans (HB3.out.mono HB2.out.size)))) (clCs_one a) (by unfold maxLen; omega) (by omega) (by have := HB3.out.size; omega) ?_; intro A4 c4 w4 hown4 hgrow4 _; have HB4 := Lib.hid (HB3.out.grown hgrow4 HB3.out.size (fun k e => (HO3.out.lt k e).1)); have HBw := Lib.hid (HB2.out.trans (HB4.out.mono HB2.out.size)); have HO4 := Lib.hid hown4; clear hown4 hgrow4; have HC4 := Lib.hid (both_cls HO4.out (fun c hc => cls_fit (HB.out.later HBw.out) c hc) (fun c hc => cls_fit (HA.out.later HBw.out) c hc)); have HC24 := Lib.hid (HC2.out.later HB4.out))
     | (go_at_call 12; refine Calls.mono (by with_reducible exact HLi.out _ HBw.out) ?_; rintro e w5 ⟨rfl, hb⟩; have HBw5 := Lib.hid (HBw.out.trans (hb.mono HBw.out.size)); have HC45 := Lib.hid (HC4.out.later hb); have HC25 := Lib.hid (HC24.out.later hb); clear hb)
     | (go_at_call 22; refine Calls.mono (by with_reducible exact HMab.out _ A2 c2 HBw5.out HC25.out) ?_; rintro e w6 ⟨rfl, hb⟩; have HBw6 := Lib.hid (HBw5.out.trans (hb.mono HBw5.out.size)); have HC46 := Lib.hid (HC45.out.later hb); have HC26 := Lib.hid (HC25.out.later hb); clear hb HC45 HC25)
     | (go_at_call 22; refine Calls.mono (by with_reducible exact HMa.out _ HBw6.out) ?_; rintro e w7 ⟨rfl, hb⟩; have HBw7 := Lib.hid (HBw6.out.trans (hb.mono HBw6.out.size)); have HC47 := Lib.hid (HC46.out.later hb); have HC27 := Lib.hid (HC26.out.later hb); clear hb)
     | (go_at_call 22; refine Calls.mono (by with_reducible exact HMb.out _ HBw7.out) ?_; rintro e w8 ⟨rfl, hb⟩; have HBw8 := Lib.hid (HBw7.out.trans (hb.mono HBw7.out.size)); have HC48 := Lib.hid (HC47.out.later hb); have HC28 := Lib.hid (HC27.out.later hb); clear hb)
     | (go_at_call 22; (first | refine Calls.mono (by with_reducible exact HMab.out _ A2 c2 HBw8.out HC28.out) ?_ | refine Calls.mono (by with_reducible exact HMab.out _ A2 c2 HBw7.out HC27.out) ?_); rintro e w9 ⟨rfl, hb⟩; (first | have HBw9 := Lib.hid (HBw8.out.trans (hb.mono HBw8.out.size)) | have HBw9 := Lib.hid (HBw7.out.trans (hb.mono HBw7.out.size))); (first | have HC49 := Lib.hid (HC48.out.later hb) | have HC49 := Lib.hid (HC47.out.later hb)); clear hb)
     | (go_at_call 22; refine Calls.mono (by with_reducible exact HMba.out _ A4 c4 HBw9.out HC49.out) ?_; rintro e w10 ⟨rfl, hb⟩; have HBx := Lib.hid (HBw9.out.trans (hb.mono HBw9.out.size)); clear hb))
   clear HMab HMba HMa HMb HO1 HO2 HO3 HO4 HB1 HB2 HB3 HB4
   go_loopw [9, 10] (fun i p wr => ∃ k : Nat, k ≤ a.length ∧ i = .int .i64 (k : Int) ∧ Hid (Below w.heap.size w wr)) (fun i _ _ => a.length - (intOf i).toNat)
   case atStart => exact ⟨0, Nat.zero_le _, rfl, HBx⟩
   case round =>
     obtain ⟨k, hkl, rfl, HBr⟩ := hrel
     by_cases hlt : k < a.length
     · have hlt' : (k : Int) < (a.length : Int) := by omega
       have hk0 : (0 : Int) ≤ (k : Int) := by omega
       obtain ⟨b', o', rfl, c0', c1', c2', hfit⟩ := (HA.out.later HBr.out) k hlt
       have HKk := Lib.hid (HK.out a[k] (List.getElem_mem _))
       have HF := Lib.hid hfit
       clear hfit
       generalize hx : a[k] = x at *
       have HX := Lib.hid hx
       clear hx
       obtain ⟨kind, key, la, vals, lc⟩ := x
       simp only at c0' c1' c2' HKk
       have hkd := HKk.out
       have hk1 : (0 : Int) ≤ (k : Int) + 1 := by omega
       have hk63 : (k : Int) + 1 ≤ 9223372036854775807 := by omega
       have hkc : (k : Int) + 1 ≤ (ca : Int) := by omega
       have hkn : ((k : Int) + 1).toNat = k + 1 := by omega
       have hck : ¬ ca = k := by omega
       have hwr : IntKind.i64.wrap ((k : Int) + 1) = (k : Int) + 1 := by rw [IntKind.wrap_i64]; omega
       by_cases h1 : kind = 1
       · subst h1
         go_wp2_with fail
         have hH0 := heap_new wr (.cells #[.int .i64 2, strV key, .slice la vals.length lc] 42)
         have hB0 := HBr.out.alloc HBr.out.size (.cells #[.int .i64 2, strV key, .slice la vals.length lc] 42)
         have HFx := Lib.hid (fit_kind (HF.out.later (below_alloc wr (.cells #[.int .i64 2, strV key, .slice la vals.length lc] 42))) 2)
         have hg : wr.heap.size < (wr.alloc (.cells #[.int .i64 2, strV key, .slice la vals.length lc] 42)).heap.size := by simp
         generalize wr.alloc (.cells #[.int .i64 2, strV key, .slice la vals.length lc] 42) = W0 at *
         generalize wr.heap.size = g at *
         obtain ⟨d0, d1, d2⟩ : W0.cell? ⟨g, 0, none⟩ = some (.int .i64 2) ∧ W0.cell? ⟨g, 1, none⟩ = some (strV key) ∧ W0.cell? ⟨g, 2, none⟩ = some (.slice la vals.length lc) := by have hc := (cells_of_heap hH0).1; exact ⟨hc 0, hc 1, hc 2⟩
         have HB0 := Lib.hid hB0
         have HLT := Lib.hid hg
         have HQ : Hid (mClause l ⟨2, key, la, vals, lc⟩ = !mClause l ⟨1, key, la, vals, lc⟩) := Lib.hid (mCl_not l key la vals lc _ _ (by decide))
         have HM2 := Lib.hid (fun V gg d h1 h2 => HMx.out V gg d ⟨2, key, la, vals, lc⟩ h1 h2)
         have HM1 := Lib.hid (fun V gg d h1 h2 => HMx.out V gg d ⟨1, key, la, vals, lc⟩ h1 h2)
         have HC1 := Lib.hid (fun V (h : Below w.heap.size w V) => cls_one (HA.out.later h) hlt)
         rw [HX.out] at HC1
         rw [HQ.out] at HM2
         generalize mClause l ⟨1, key, la, vals, lc⟩ = q at *
         have HD : Hid (∀ V, Below W0.heap.size W0 V → (fun w' => w'.cell? ⟨g, 0, none⟩ = some (.int .i64 2) ∧ w'.cell? ⟨g, 1, none⟩ = some (strV key) ∧ w'.cell? ⟨g, 2, none⟩ = some (.slice la vals.length lc) ∧ Below W0.heap.size W0 w') V) := Lib.hid (fun V h => ⟨(h.cell (p := ⟨g, 0, none⟩) HLT.out).trans d0, (h.cell (p := ⟨g, 1, none⟩) HLT.out).trans d1, (h.cell (p := ⟨g, 2, none⟩) HLT.out).trans d2, h⟩)
         clear hH0 hB0 hg HQ
         refine wp_region_held_drew (S := (fun w' => w'.cell? ⟨g, 0, none⟩ = some (.int .i64 2) ∧ w'.cell? ⟨g, 1, none⟩ = some (strV key) ∧ w'.cell? ⟨g, 2, none⟩ = some (.slice la vals.length lc) ∧ Below W0.heap.size W0 w')) (by kernel_rfl) (HD.out _ (Below.refl _ _).drew) (fun hHeld => ?_)
         clear d0 d1 d2
         refine wpAnyH_take (i := 0) (v := ?vv109) rfl (by kernel_rfl) (by kernel_rfl) (by kernel_rfl) (fun _ _ _ h => h) (Or.inl ⟨by rfl, ?hy109⟩) hHeld ?rr109
         case hy109 => (intro w' hSw; obtain ⟨g0, g1, g2, g3⟩ := hSw; go_simp; try with_reducible rfl)
         try simp only [Act.put, List.setIfInBounds_toArray, List.set_cons_zero, List.set_cons_succ, List.getElem_toArray, List.getElem_cons_succ, List.getElem_cons_zero]
         refine wpAnyH_take (i := 2) (v := ?vv110) rfl (by kernel_rfl) (by kernel_rfl) (by kernel_rfl) (fun _ _ _ h => h) (Or.inl ⟨by rfl, ?hy110⟩) hHeld ?rr110
         case hy110 => (intro w' hSw; obtain ⟨g0, g1, g2, g3⟩ := hSw; go_simp; try with_reducible rfl)
         try simp only [Act.put, List.setIfInBounds_toArray, List.set_cons_zero, List.set_cons_succ, List.getElem_toArray, List.getElem_cons_succ, List.getElem_cons_zero]
         refine wpAnyH_take (i := 4) (v := ?vv111) rfl (by kernel_rfl) (by kernel_rfl) (by kernel_rfl) (fun _ _ _ h => h) (Or.inl ⟨by rfl, ?hy111⟩) hHeld ?rr111
         case hy111 => (intro w' hSw; obtain ⟨g0, g1, g2, g3⟩ := hSw; go_simp; try with_reducible rfl)
         try simp only [Act.put, List.setIfInBounds_toArray, List.set_cons_zero, List.set_cons_succ, List.getElem_toArray, List.getElem_cons_succ, List.getElem_cons_zero]
         refine wpAnyH_take (i := 5) (v := ?vv112) rfl (by kernel_rfl) (by kernel_rfl) (by kernel_rfl) (fun _ _ _ h => h) (Or.inl ⟨by rfl, ?hy112⟩) hHeld ?rr112
         case hy112 => (intro w' hSw; obtain ⟨g0, g1, g2, g3⟩ := hSw; go_simp; try with_reducible rfl)
         try simp only [Act.put, List.setIfInBounds_toArray, List.set_cons_zero, List.set_cons_succ, List.getElem_toArray, List.getElem_cons_succ, List.getElem_cons_zero]
         refine wpAnyH_take (i := 6) (v := ?vv113) rfl (by kernel_rfl) (by kernel_rfl) (by kernel_rfl) (fun _ _ _ h => h) (Or.inl ⟨by rfl, ?hy113⟩) hHeld ?rr113
         case hy113 => (intro w' hSw; obtain ⟨g0, g1, g2, g3⟩ := hSw; go_simp; try with_reducible rfl)
         try simp only [Act.put, List.setIfInBounds_toArray, List.set_cons_zero, List.set_cons_succ, List.getElem_toArray, List.getElem_cons_succ, List.getElem_cons_zero]
         refine wpAnyH_take (i := 7) (v := ?vv114) rfl (by kernel_rfl) (by kernel_rfl) (by kernel_rfl) (fun _ _ _ h => h) (Or.inl ⟨by rfl, ?hy114⟩) hHeld ?rr114
         case hy114 => (intro w' hSw; obtain ⟨g0, g1, g2, g3⟩ := hSw; go_simp; try with_reducible rfl)
         try simp only [Act.put, List.setIfInBounds_toArray, List.set_cons_zero, List.set_cons_succ, List.getElem_toArray, List.getElem_cons_succ, List.getElem_cons_zero]
         refine wpAnyH_take (i := 8) (v := ?vv115) rfl (by kernel_rfl) (by kernel_rfl) (by kernel_rfl) (fun _ _ _ h => h) (Or.inl ⟨by rfl, ?hy115⟩) hHeld ?rr115
         case hy115 => (intro w' hSw; obtain ⟨g0, g1, g2, g3⟩ := hSw; go_simp; try with_reducible rfl)
         try simp only [Act.put, List.setIfInBounds_toArray, List.set_cons_zero, List.set_cons_succ, List.getElem_toArray, List.getElem_cons_succ, List.getElem_cons_zero]
         refine wpAnyH_take (i := 9) (v := ?vv116) rfl (by kernel_rfl) (by kernel_rfl) (by kernel_rfl) (fun _ _ _ h => h) (Or.inl ⟨by rfl, ?hy116⟩) hHeld ?rr116
         case hy116 => (intro w' hSw; obtain ⟨g0, g1, g2, g3⟩ := hSw; go_simp; try with_reducible rfl)
         try simp only [Act.put, List.setIfInBounds_toArray, List.set_cons_zero, List.set_cons_succ, List.getElem_toArray, List.getElem_cons_succ, List.getElem_cons_zero]
         refine wpAnyH_ready (rs := [1]) (by kernel_rfl) (by simp) ?_
         refine AllReadyH.cons rfl (fun K hK => ?_) AllReadyH.nil
         go_simp
         have hB1 : Below W0.heap.size W0 (W0.alloc (.cells #[.int .i64 2, strV key, .slice la vals.length lc] 42)).drew := (below_alloc _ _).drew
         have hH1 : (W0.alloc (.cells #[.int .i64 2, strV key, .slice la vals.length lc] 42)).drew.heap[W0.heap.size]? = _ := heap_new W0 (.cells #[.int .i64 2, strV key, .slice la vals.length lc] 42)
         generalize (W0.alloc (.cells #[.int .i64 2, strV key, .slice la vals.length lc] 42)).drew = W1 at *
         refine hK.out _ _ (HD.out _ hB1) (fun hHeld2 => ?_)
         clear hK K hHeld
         have hHeld := hHeld2
         clear hHeld2
         try simp only [Act.put, List.setIfInBounds_toArray, List.set_cons_zero, List.set_cons_succ, List.getElem_toArray, List.getElem_cons_succ, List.getElem_cons_zero]
         refine wpAnyH_ready (rs := [3]) (by kernel_rfl) (by simp) ?_
         refine AllReadyH.cons rfl (fun K hK => ?_) AllReadyH.nil
         go_simp
         go_at_call 22
         refine Calls.mono (by with_reducible exact HM2.out _ _ _ (HB0.out.trans (hB1.mono HB0.out.size)) (cls_new hH1 (HFx.out.later hB1))) ?_
         rintro e W2 ⟨rfl, hb⟩
         have hB2 := hB1.trans (hb.mono hB1.size)
         clear hb hB1 hH1
         go_wp2_with fail
         refine hK.out _ _ (HD.out _ hB2) (fun hHeld2 => ?_)
         clear hK K hHeld
         have hHeld := hHeld2
         clear hHeld2
         try simp only [Act.put, List.setIfInBounds_toArray, List.set_cons_zero, List.set_cons_succ, List.getElem_toArray, List.getElem_cons_succ, List.getElem_cons_zero]
         refine wpAnyH_ready (rs := [10]) (by kernel_rfl) (by simp) ?_
         refine AllReadyH.cons rfl (fun K hK => ?_) AllReadyH.nil
         go_simp
         go_at_call 22
         refine Calls.mono (by with_reducible exact HM1.out _ _ _ (HB0.out.trans (hB2.mono HB0.out.size)) (HC1.out _ (HB0.out.trans (hB2.mono HB0.out.size)))) ?_
         rintro e W3 ⟨rfl, hb⟩
         have hB3 := hB2.trans (hb.mono hB2.size)
         clear hb hB2
         go_wp2_with fail
         refine hK.out _ _ (HD.out _ hB3) (fun hHeld2 => ?_)
         clear hK K hHeld
         have hHeld := hHeld2
         clear hHeld2
         try simp only [Act.put, List.setIfInBounds_toArray, List.set_cons_zero, List.set_cons_succ, List.getElem_toArray, List.getElem_cons_succ, List.getElem_cons_zero]
         refine wpAnyH_take (i := 11) (v := ?vv117) rfl (by kernel_rfl) (by kernel_rfl) (by kernel_rfl) (fun _ _ _ h => h) (Or.inl ⟨by rfl, ?hy117⟩) hHeld ?rr117
         case hy117 => (intro w' hSw; obtain ⟨g0, g1, g2, g3⟩ := hSw; go_simp; try with_reducible rfl)
         try simp only [Act.put, List.setIfInBounds_toArray, List.set_cons_zero, List.set_cons_succ, List.getElem_toArray, List.getElem_cons_succ, List.getElem_cons_zero]
         refine wpAnyH_done (by kernel_rfl) ?_ _
         clear hHeld
         have HB4 := Lib.hid (HB0.out.trans (hB3.mono HB0.out.size))
         clear hB3 HD HM1 HM2 HC1
         go_wp2
         go_roundw
         case rel => exact ⟨k + 1, by omega, by go_num, HB4⟩
         case measure => simp [intOf]; omega
       by_cases h2 : kind = 2
       · subst h2
         go_wp2_with fail
         have hH0 := heap_new wr (.cells #[.int .i64 1, strV key, .slice la vals.length lc] 42)
         have hB0 := HBr.out.alloc HBr.out.size (.cells #[.int .i64 1, strV key, .slice la vals.length lc] 42)
         have HFx := Lib.hid (fit_kind (HF.out.later (below_alloc wr (.cells #[.int .i64 1, strV key, .slice la vals.length lc] 42))) 1)
         have hg : wr.heap.size < (wr.alloc (.cells #[.int .i64 1, strV key, .slice la vals.length lc] 42)).heap.size := by simp
         generalize wr.alloc (.cells #[.int .i64 1, strV key, .slice la vals.length lc] 42) = W0 at *
         generalize wr.heap.size = g at *
         obtain ⟨d0, d1, d2⟩ : W0.cell? ⟨g, 0, none⟩ = some (.int .i64 1) ∧ W0.cell? ⟨g, 1, none⟩ = some (strV key) ∧ W0.cell? ⟨g, 2, none⟩ = some (.slice la vals.length lc) := by have hc := (cells_of_heap hH0).1; exact ⟨hc 0, hc 1, hc 2⟩
         have HB0 := Lib.hid hB0
         have HLT := Lib.hid hg
         have HQ : Hid (mClause l ⟨1, key, la, vals, lc⟩ = !mClause l ⟨2, key, la, vals, lc⟩) := Lib.hid (mCl_not l key la vals lc _ _ (by decide))
         have HM2 := Lib.hid (fun V gg d h1 h2 => HMx.out V gg d ⟨1, key, la, vals, lc⟩ h1 h2)
         have HM1 := Lib.hid (fun V gg d h1 h2 => HMx.out V gg d ⟨2, key, la, vals, lc⟩ h1 h2)
         have HC1 := Lib.hid (fun V (h : Below w.heap.size w V) => cls_one (HA.out.later h) hlt)
         rw [HX.out] at HC1
         rw [HQ.out] at HM2
         generalize mClause l ⟨2, key, la, vals, lc⟩ = q at *
         have HD : Hid (∀ V, Below W0.heap.size W0 V → (fun w' => w'.cell? ⟨g, 0, none⟩ = some (.int .i64 1) ∧ w'.cell? ⟨g, 1, none⟩ = some (strV key) ∧ w'.cell? ⟨g, 2, none⟩ = some (.slice la vals.length lc) ∧ Below W0.heap.size W0 w') V) := Lib.hid (fun V h => ⟨(h.cell (p := ⟨g, 0, none⟩) HLT.out).trans d0, (h.cell (p := ⟨g, 1, none⟩) HLT.out).trans d1, (h.cell (p := ⟨g, 2, none⟩) HLT.out).trans d2, h⟩)
         clear hH0 hB0 hg HQ
         refine wp_region_held_drew (S := (fun w' => w'.cell? ⟨g, 0, none⟩ = some (.int .i64 1) ∧ w'.cell? ⟨g, 1, none⟩ = some (strV key) ∧ w'.cell? ⟨g, 2, none⟩ = some (.slice la vals.length lc) ∧ Below W0.heap.size W0 w')) (by kernel_rfl) (HD.out _ (Below.refl _ _).drew) (fun hHeld => ?_)
         clear d0 d1 d2
         refine wpAnyH_take (i := 0) (v := ?vv118) rfl (by kernel_rfl) (by kernel_rfl) (by kernel_rfl) (fun _ _ _ h => h) (Or.inl ⟨by rfl, ?hy118⟩) hHeld ?rr118
         case hy118 => (intro w' hSw; obtain ⟨g0, g1, g2, g3⟩ := hSw; go_simp; try with_reducible rfl)
         try simp only [Act.put, List.setIfInBounds_toArray, List.set_cons_zero, List.set_cons_succ, List.getElem_toArray, List.getElem_cons_succ, List.getElem_cons_zero]
         refine wpAnyH_take (i := 2) (v := ?vv119) rfl (by kernel_rfl) (by kernel_rfl) (by kernel_rfl) (fun _ _ _ h => h) (Or.inl ⟨by rfl, ?hy119⟩) hHeld ?rr119
         case hy119 => (intro w' hSw; obtain ⟨g0, g1, g2, g3⟩ := hSw; go_simp; try with_reducible rfl)
         try simp only [Act.put, List.setIfInBounds_toArray, List.set_cons_zero, List.set_cons_succ, List.getElem_toArray, List.getElem_cons_succ, List.getElem_cons_zero]
         refine wpAnyH_take (i := 4) (v := ?vv120) rfl (by kernel_rfl) (by kernel_rfl) (by kernel_rfl) (fun _ _ _ h => h) (Or.inl ⟨by rfl, ?hy120⟩) hHeld ?rr120
         case hy120 => (intro w' hSw; obtain ⟨g0, g1, g2, g3⟩ := hSw; go_simp; try with_reducible rfl)
         try simp only [Act.put, List.setIfInBounds_toArray, List.set_cons_zero, List.set_cons_succ, List.getElem_toArray, List.getElem_cons_succ, List.getElem_cons_zero]
         refine wpAnyH_take (i := 5) (v := ?vv121) rfl (by kernel_rfl) (by kernel_rfl) (by kernel_rfl) (fun _ _ _ h => h) (Or.inl ⟨by rfl, ?hy121⟩) hHeld ?rr121
         case hy121 => (intro w' hSw; obtain ⟨g0, g1, g2, g3⟩ := hSw; go_simp; try with_reducible rfl)
         try simp only [Act.put, List.setIfInBounds_toArray, List.set_cons_zero, List.set_cons_succ, List.getElem_toArray, List.getElem_cons_succ, List.getElem_cons_zero]
         refine wpAnyH_take (i := 6) (v := ?vv122) rfl (by kernel_rfl) (by kernel_rfl) (by kernel_rfl) (fun _ _ _ h => h) (Or.inl ⟨by rfl, ?hy122⟩) hHeld ?rr122
         case hy122 => (intro w' hSw; obtain ⟨g0, g1, g2, g3⟩ := hSw; go_simp; try with_reducible rfl)
         try simp only [Act.put, List.setIfInBounds_toArray, List.set_cons_zero, List.set_cons_succ, List.getElem_toArray, List.getElem_cons_succ, List.getElem_cons_zero]
         refine wpAnyH_take (i := 7) (v := ?vv123) rfl (by kernel_rfl) (by kernel_rfl) (by kernel_rfl) (fun _ _ _ h => h) (Or.inl ⟨by rfl, ?hy123⟩) hHeld ?rr123
         case hy123 => (intro w' hSw; obtain ⟨g0, g1, g2, g3⟩ := hSw; go_simp; try with_reducible rfl)
         try simp only [Act.put, List.setIfInBounds_toArray, List.set_cons_zero, List.set_cons_succ, List.getElem_toArray, List.getElem_cons_succ, List.getElem_cons_zero]
         refine wpAnyH_take (i := 8) (v := ?vv124) rfl (by kernel_rfl) (by kernel_rfl) (by kernel_rfl) (fun _ _ _ h => h) (Or.inl ⟨by rfl, ?hy124⟩) hHeld ?rr124
         case hy124 => (intro w' hSw; obtain ⟨g0, g1, g2, g3⟩ := hSw; go_simp; try with_reducible rfl)
         try simp only [Act.put, List.setIfInBounds_toArray, List.set_cons_zero, List.set_cons_succ, List.getElem_toArray, List.getElem_cons_succ, List.getElem_cons_zero]
         refine wpAnyH_take (i := 9) (v := ?vv125) rfl (by kernel_rfl) (by kernel_rfl) (by kernel_rfl) (fun _ _ _ h => h) (Or.inl ⟨by rfl, ?hy125⟩) hHeld ?rr125
         case hy125 => (intro w' hSw; obtain ⟨g0, g1, g2, g3⟩ := hSw; go_simp; try with_reducible rfl)
         try simp only [Act.put, List.setIfInBounds_toArray, List.set_cons_zero, List.set_cons_succ, List.getElem_toArray, List.getElem_cons_succ, List.getElem_cons_zero]
         refine wpAnyH_ready (rs := [1]) (by kernel_rfl) (by simp) ?_
         refine AllReadyH.cons rfl (fun K hK => ?_) AllReadyH.nil
         go_simp
         have hB1 : Below W0.heap.size W0 (W0.alloc (.cells #[.int .i64 1, strV key, .slice la vals.length lc] 42)).drew := (below_alloc _ _).drew
         have hH1 : (W0.alloc (.cells #[.int .i64 1, strV key, .slice la vals.length lc] 42)).drew.heap[W0.heap.size]? = _ := heap_new W0 (.cells #[.int .i64 1, strV key, .slice la vals.length lc] 42)
         generalize (W0.alloc (.cells #[.int .i64 1, strV key, .slice la vals.length lc] 42)).drew = W1 at *
         refine hK.out _ _ (HD.out _ hB1) (fun hHeld2 => ?_)
         clear hK K hHeld
         have hHeld := hHeld2
         clear hHeld2
         try simp only [Act.put, List.setIfInBounds_toArray, List.set_cons_zero, List.set_cons_succ, List.getElem_toArray, List.getElem_cons_succ, List.getElem_cons_zero]
         refine wpAnyH_ready (rs := [3]) (by kernel_rfl) (by simp) ?_
         refine AllReadyH.cons rfl (fun K hK => ?_) AllReadyH.nil
         go_simp
         go_at_call 22
         refine Calls.mono (by with_reducible exact HM2.out _ _ _ (HB0.out.trans (hB1.mono HB0.out.size)) (cls_new hH1 (HFx.out.later hB1))) ?_
         rintro e W2 ⟨rfl, hb⟩
         have hB2 := hB1.trans (hb.mono hB1.size)
         clear hb hB1 hH1
         go_wp2_with fail
         refine hK.out _ _ (HD.out _ hB2) (fun hHeld2 => ?_)
         clear hK K hHeld
         have hHeld := hHeld2
         clear hHeld2
         try simp only [Act.put, List.setIfInBounds_toArray, List.set_cons_zero, List.set_cons_succ, List.getElem_toArray, List.getElem_cons_succ, List.getElem_cons_zero]
         refine wpAnyH_ready (rs := [10]) (by kernel_rfl) (by simp) ?_
         refine AllReadyH.cons rfl (fun K hK => ?_) AllReadyH.nil
         go_simp
         go_at_call 22
         refine Calls.mono (by with_reducible exact HM1.out _ _ _ (HB0.out.trans (hB2.mono HB0.out.size)) (HC1.out _ (HB0.out.trans (hB2.mono HB0.out.size)))) ?_
         rintro e W3 ⟨rfl, hb⟩
         have hB3 := hB2.trans (hb.mono hB2.size)
         clear hb hB2
         go_wp2_with fail
         refine hK.out _ _ (HD.out _ hB3) (fun hHeld2 => ?_)
         clear hK K hHeld
         have hHeld := hHeld2
         clear hHeld2
         try simp only [Act.put, List.setIfInBounds_toArray, List.set_cons_zero, List.set_cons_succ, List.getElem_toArray, List.getElem_cons_succ, List.getElem_cons_zero]
         refine wpAnyH_take (i := 11) (v := ?vv126) rfl (by kernel_rfl) (by kernel_rfl) (by kernel_rfl) (fun _ _ _ h => h) (Or.inl ⟨by rfl, ?hy126⟩) hHeld ?rr126
         case hy126 => (intro w' hSw; obtain ⟨g0, g1, g2, g3⟩ := hSw; go_simp; try with_reducible rfl)
         try simp only [Act.put, List.setIfInBounds_toArray, List.set_cons_zero, List.set_cons_succ, List.getElem_toArray, List.getElem_cons_succ, List.getElem_cons_zero]
         refine wpAnyH_done (by kernel_rfl) ?_ _
         clear hHeld
         have HB4 := Lib.hid (HB0.out.trans (hB3.mono HB0.out.size))
         clear hB3 HD HM1 HM2 HC1
         go_wp2
         go_roundw
         case rel => exact ⟨k + 1, by omega, by go_num, HB4⟩
         case measure => simp [intOf]; omega
       by_cases h3 : kind = 3
       · subst h3
         go_wp2_with fail
         have hH0 := heap_new wr (.cells #[.int .i64 4, strV key, .slice la vals.length lc] 42)
         have hB0 := HBr.out.alloc HBr.out.size (.cells #[.int .i64 4, strV key, .slice la vals.length lc] 42)
         have HFx := Lib.hid (fit_kind (HF.out.later (below_alloc wr (.cells #[.int .i64 4, strV key, .slice la vals.length lc] 42))) 4)
         have hg : wr.heap.size < (wr.alloc (.cells #[.int .i64 4, strV key, .slice la vals.length lc] 42)).heap.size := by simp
         generalize wr.alloc (.cells #[.int .i64 4, strV key, .slice la vals.length lc] 42) = W0 at *
         generalize wr.heap.size = g at *
         obtain ⟨d0, d1, d2⟩ : W0.cell? ⟨g, 0, none⟩ = some (.int .i64 4) ∧ W0.cell? ⟨g, 1, none⟩ = some (strV key) ∧ W0.cell? ⟨g, 2, none⟩ = some (.slice la vals.length lc) := by have hc := (cells_of_heap hH0).1; exact ⟨hc 0, hc 1, hc 2⟩
         have HB0 := Lib.hid hB0
         have HLT := Lib.hid hg
         have HQ : Hid (mClause l ⟨4, key, la, vals, lc⟩ = !mClause l ⟨3, key, la, vals, lc⟩) := Lib.hid (mCl_not l key la vals lc _ _ (by decide))
         have HM2 := Lib.hid (fun V gg d h1 h2 => HMx.out V gg d ⟨4, key, la, vals, lc⟩ h1 h2)
         have HM1 := Lib.hid (fun V gg d h1 h2 => HMx.out V gg d ⟨3, key, la, vals, lc⟩ h1 h2)
         have HC1 := Lib.hid (fun V (h : Below w.heap.size w V) => cls_one (HA.out.later h) hlt)
         rw [HX.out] at HC1
         rw [HQ.out] at HM2
         generalize mClause l ⟨3, key, la, vals, lc⟩ = q at *
         have HD : Hid (∀ V, Below W0.heap.size W0 V → (fun w' => w'.cell? ⟨g, 0, none⟩ = some (.int .i64 4) ∧ w'.cell? ⟨g, 1, none⟩ = some (strV key) ∧ w'.cell? ⟨g, 2, none⟩ = some (.slice la vals.length lc) ∧ Below W0.heap.size W0 w') V) := Lib.hid (fun V h => ⟨(h.cell (p := ⟨g, 0, none⟩) HLT.out).trans d0, (h.cell (p := ⟨g, 1, none⟩) HLT.out).trans d1, (h.cell (p := ⟨g, 2, none⟩) HLT.out).trans d2, h⟩)
         clear hH0 hB0 hg HQ
         refine wp_region_held_drew (S := (fun w' => w'.cell? ⟨g, 0, none⟩ = some (.int .i64 4) ∧ w'.cell? ⟨g, 1, none⟩ = some (strV key) ∧ w'.cell? ⟨g, 2, none⟩ = some (.slice la vals.length lc) ∧ Below W0.heap.size W0 w')) (by kernel_rfl) (HD.out _ (Below.refl _ _).drew) (fun hHeld => ?_)
         clear d0 d1 d2
         refine wpAnyH_take (i := 0) (v := ?vv127) rfl (by kernel_rfl) (by kernel_rfl) (by kernel_rfl) (fun _ _ _ h => h) (Or.inl ⟨by rfl, ?hy127⟩) hHeld ?rr127
         case hy127 => (intro w' hSw; obtain ⟨g0, g1, g2, g3⟩ := hSw; go_simp; try with_reducible rfl)
         try simp only [Act.put, List.setIfInBounds_toArray, List.set_cons_zero, List.set_cons_succ, List.getElem_toArray, List.getElem_cons_succ, List.getElem_cons_zero]
         refine wpAnyH_take (i := 2) (v := ?vv128) rfl (by kernel_rfl) (by kernel_rfl) (by kernel_rfl) (fun _ _ _ h => h) (Or.inl ⟨by rfl, ?hy128⟩) hHeld ?rr128
         case hy128 => (intro w' hSw; obtain ⟨g0, g1, g2, g3⟩ := hSw; go_simp; try with_reducible rfl)
         try simp only [Act.put, List.setIfInBounds_toArray, List.set_cons_zero, List.set_cons_succ, List.getElem_toArray, List.getElem_cons_succ, List.getElem_cons_zero]
         refine wpAnyH_take (i := 4) (v := ?vv129) rfl (by kernel_rfl) (by kernel_rfl) (by kernel_rfl) (fun _ _ _ h => h) (Or.inl ⟨by rfl, ?hy129⟩) hHeld ?rr129
         case hy129 => (intro w' hSw; obtain ⟨g0, g1, g2, g3⟩ := hSw; go_simp; try with_reducible rfl)
         try simp only [Act.put, List.setIfInBounds_toArray, List.set_cons_zero, List.set_cons_succ, List.getElem_toArray, List.getElem_cons_succ, List.getElem_cons_zero]
         refine wpAnyH_take (i := 5) (v := ?vv130) rfl (by kernel_rfl) (by kernel_rfl) (by kernel_rfl) (fun _ _ _ h => h) (Or.inl ⟨by rfl, ?hy130⟩) hHeld ?rr130
         case hy130 => (intro w' hSw; obtain ⟨g0, g1, g2, g3⟩ := hSw; go_simp; try with_reducible rfl)
         try simp only [Act.put, List.setIfInBounds_toArray, List.set_cons_zero, List.set_cons_succ, List.getElem_toArray, List.getElem_cons_succ, List.getElem_cons_zero]
         refine wpAnyH_take (i := 6) (v := ?vv131) rfl (by kernel_rfl) (by kernel_rfl) (by kernel_rfl) (fun _ _ _ h => h) (Or.inl ⟨by rfl, ?hy131⟩) hHeld ?rr131
         case hy131 => (intro w' hSw; obtain ⟨g0, g1, g2, g3⟩ := hSw; go_simp; try with_reducible rfl)
         try simp only [Act.put, List.setIfInBounds_toArray, List.set_cons_zero, List.set_cons_succ, List.getElem_toArray, List.getElem_cons_succ, List.getElem_cons_zero]
         refine wpAnyH_take (i := 7) (v := ?vv132) rfl (by kernel_rfl) (by kernel_rfl) (by kernel_rfl) (fun _ _ _ h => h) (Or.inl ⟨by rfl, ?hy132⟩) hHeld ?rr132
         case hy132 => (intro w' hSw; obtain ⟨g0, g1, g2, g3⟩ := hSw; go_simp; try with_reducible rfl)
         try simp only [Act.put, List.setIfInBounds_toArray, List.set_cons_zero, List.set_cons_succ, List.getElem_toArray, List.getElem_cons_succ, List.getElem_cons_zero]
         refine wpAnyH_take (i := 8) (v := ?vv133) rfl (by kernel_rfl) (by kernel_rfl) (by kernel_rfl) (fun _ _ _ h => h) (Or.inl ⟨by rfl, ?hy133⟩) hHeld ?rr133
         case hy133 => (intro w' hSw; obtain ⟨g0, g1, g2, g3⟩ := hSw; go_simp; try with_reducible rfl)
         try simp only [Act.put, List.setIfInBounds_toArray, List.set_cons_zero, List.set_cons_succ, List.getElem_toArray, List.getElem_cons_succ, List.getElem_cons_zero]
         refine wpAnyH_take (i := 9) (v := ?vv134) rfl (by kernel_rfl) (by kernel_rfl) (by kernel_rfl) (fun _ _ _ h => h) (Or.inl ⟨by rfl, ?hy134⟩) hHeld ?rr134
         case hy134 => (intro w' hSw; obtain ⟨g0, g1, g2, g3⟩ := hSw; go_simp; try with_reducible rfl)
         try simp only [Act.put, List.setIfInBounds_toArray, List.set_cons_zero, List.set_cons_succ, List.getElem_toArray, List.getElem_cons_succ, List.getElem_cons_zero]
         refine wpAnyH_ready (rs := [1]) (by kernel_rfl) (by simp) ?_
         refine AllReadyH.cons rfl (fun K hK => ?_) AllReadyH.nil
         go_simp
         have hB1 : Below W0.heap.size W0 (W0.alloc (.cells #[.int .i64 4, strV key, .slice la vals.length lc] 42)).drew := (below_alloc _ _).drew
         have hH1 : (W0.alloc (.cells #[.int .i64 4, strV key, .slice la vals.length lc] 42)).drew.heap[W0.heap.size]? = _ := heap_new W0 (.cells #[.int .i64 4, strV key, .slice la vals.length lc] 42)
         generalize (W0.alloc (.cells #[.int .i64 4, strV key, .slice la vals.length lc] 42)).drew = W1 at *
         refine hK.out _ _ (HD.out _ hB1) (fun hHeld2 => ?_)
         clear hK K hHeld
         have hHeld := hHeld2
         clear hHeld2
         try simp only [Act.put, List.setIfInBounds_toArray, List.set_cons_zero, List.set_cons_succ, List.getElem_toArray, List.getElem_cons_succ, List.getElem_cons_zero]
         refine wpAnyH_ready (rs := [3]) (by kernel_rfl) (by simp) ?_
         refine AllReadyH.cons rfl (fun K hK => ?_) AllReadyH.nil
         go_simp
         go_at_call 22
         refine Calls.mono (by with_reducible exact HM2.out _ _ _ (HB0.out.trans (hB1.mono HB0.out.size)) (cls_new hH1 (HFx.out.later hB1))) ?_
         rintro e W2 ⟨rfl, hb⟩
         have hB2 := hB1.trans (hb.mono hB1.size)
         clear hb hB1 hH1
         go_wp2_with fail
         refine hK.out _ _ (HD.out _ hB2) (fun hHeld2 => ?_)
         clear hK K hHeld
         have hHeld := hHeld2
         clear hHeld2
         try simp only [Act.put, List.setIfInBounds_toArray, List.set_cons_zero, List.set_cons_succ, List.getElem_toArray, List.getElem_cons_succ, List.getElem_cons_zero]
         refine wpAnyH_ready (rs := [10]) (by kernel_rfl) (by simp) ?_
         refine AllReadyH.cons rfl (fun K hK => ?_) AllReadyH.nil
         go_simp
         go_at_call 22
         refine Calls.mono (by with_reducible exact HM1.out _ _ _ (HB0.out.trans (hB2.mono HB0.out.size)) (HC1.out _ (HB0.out.trans (hB2.mono HB0.out.size)))) ?_
         rintro e W3 ⟨rfl, hb⟩
         have hB3 := hB2.trans (hb.mono hB2.size)
         clear hb hB2
         go_wp2_with fail
         refine hK.out _ _ (HD.out _ hB3) (fun hHeld2 => ?_)
         clear hK K hHeld
         have hHeld := hHeld2
         clear hHeld2
         try simp only [Act.put, List.setIfInBounds_toArray, List.set_cons_zero, List.set_cons_succ, List.getElem_toArray, List.getElem_cons_succ, List.getElem_cons_zero]
         refine wpAnyH_take (i := 11) (v := ?vv135) rfl (by kernel_rfl) (by kernel_rfl) (by kernel_rfl) (fun _ _ _ h => h) (Or.inl ⟨by rfl, ?hy135⟩) hHeld ?rr135
         case hy135 => (intro w' hSw; obtain ⟨g0, g1, g2, g3⟩ := hSw; go_simp; try with_reducible rfl)
         try simp only [Act.put, List.setIfInBounds_toArray, List.set_cons_zero, List.set_cons_succ, List.getElem_toArray, List.getElem_cons_succ, List.getElem_cons_zero]
         refine wpAnyH_done (by kernel_rfl) ?_ _
         clear hHeld
         have HB4 := Lib.hid (HB0.out.trans (hB3.mono HB0.out.size))
         clear hB3 HD HM1 HM2 HC1
         go_wp2
         go_roundw
         case rel => exact ⟨k + 1, by omega, by go_num, HB4⟩
         case measure => simp [intOf]; omega
       by_cases h4 : kind = 4
       · subst h4
         go_wp2_with fail
         have hH0 := heap_new wr (.cells #[.int .i64 3, strV key, .slice la vals.length lc] 42)
         have hB0 := HBr.out.alloc HBr.out.size (.cells #[.int .i64 3, strV key, .slice la vals.length lc] 42)
         have HFx := Lib.hid (fit_kind (HF.out.later (below_alloc wr (.cells #[.int .i64 3, strV key, .slice la vals.length lc] 42))) 3)
         have hg : wr.heap.size < (wr.alloc (.cells #[.int .i64 3, strV key, .slice la vals.length lc] 42)).heap.size := by simp
         generalize wr.alloc (.cells #[.int .i64 3, strV key, .slice la vals.length lc] 42) = W0 at *
         generalize wr.heap.size = g at *
         obtain ⟨d0, d1, d2⟩ : W0.cell? ⟨g, 0, none⟩ = some (.int .i64 3) ∧ W0.cell? ⟨g, 1, none⟩ = some (strV key) ∧ W0.cell? ⟨g, 2, none⟩ = some (.slice la vals.length lc) := by have hc := (cells_of_heap hH0).1; exact ⟨hc 0, hc 1, hc 2⟩
         have HB0 := Lib.hid hB0
         have HLT := Lib.hid hg
         have HQ : Hid (mClause l ⟨3, key, la, vals, lc⟩ = !mClause l ⟨4, key, la, vals, lc⟩) := Lib.hid (mCl_not l key la vals lc _ _ (by decide))
         have HM2 := Lib.hid (fun V gg d h1 h2 => HMx.out V gg d ⟨3, key, la, vals, lc⟩ h1 h2)
         have HM1 := Lib.hid (fun V gg d h1 h2 => HMx.out V gg d ⟨4, key, la, vals, lc⟩ h1 h2)
         have HC1 := Lib.hid (fun V (h : Below w.heap.size w V) => cls_one (HA.out.later h) hlt)
         rw [HX.out] at HC1
         rw [HQ.out] at HM2
         generalize mClause l ⟨4, key, la, vals, lc⟩ = q at *
         have HD : Hid (∀ V, Below W0.heap.size W0 V → (fun w' => w'.cell? ⟨g, 0, none⟩ = some (.int .i64 3) ∧ w'.cell? ⟨g, 1, none⟩ = some (strV key) ∧ w'.cell? ⟨g, 2, none⟩ = some (.slice la vals.length lc) ∧ Below W0.heap.size W0 w') V) := Lib.hid (fun V h => ⟨(h.cell (p := ⟨g, 0, none⟩) HLT.out).trans d0, (h.cell (p := ⟨g, 1, none⟩) HLT.out).trans d1, (h.cell (p := ⟨g, 2, none⟩) HLT.out).trans d2, h⟩)
         clear hH0 hB0 hg HQ
         refine wp_region_held_drew (S := (fun w' => w'.cell? ⟨g, 0, none⟩ = some (.int .i64 3) ∧ w'.cell? ⟨g, 1, none⟩ = some (strV key) ∧ w'.cell? ⟨g, 2, none⟩ = some (.slice la vals.length lc) ∧ Below W0.heap.size W0 w')) (by kernel_rfl) (HD.out _ (Below.refl _ _).drew) (fun hHeld => ?_)
         clear d0 d1 d2
         refine wpAnyH_take (i := 0) (v := ?vv136) rfl (by kernel_rfl) (by kernel_rfl) (by kernel_rfl) (fun _ _ _ h => h) (Or.inl ⟨by rfl, ?hy136⟩) hHeld ?rr136
         case hy136 => (intro w' hSw; obtain ⟨g0, g1, g2, g3⟩ := hSw; go_simp; try with_reducible rfl)
         try simp only [Act.put, List.setIfInBounds_toArray, List.set_cons_zero, List.set_cons_succ, List.getElem_toArray, List.getElem_cons_succ, List.getElem_cons_zero]
         refine wpAnyH_take (i := 2) (v := ?vv137) rfl (by kernel_rfl) (by kernel_rfl) (by kernel_rfl) (fun _ _ _ h => h) (Or.inl ⟨by rfl, ?hy137⟩) hHeld ?rr137
         case hy137 => (intro w' hSw; obtain ⟨g0, g1, g2, g3⟩ := hSw; go_simp; try with_reducible rfl)
         try simp only [Act.put, List.setIfInBounds_toArray, List.set_cons_zero, List.set_cons_succ, List.getElem_toArray, List.getElem_cons_succ, List.getElem_cons_zero]
         refine wpAnyH_take (i := 4) (v := ?vv138) rfl (by kernel_rfl) (by kernel_rfl) (by kernel_rfl) (fun _ _ _ h => h) (Or.inl ⟨by rfl, ?hy138⟩) hHeld ?rr138
         case hy138 => (intro w' hSw; obtain ⟨g0, g1, g2, g3⟩ := hSw; go_simp; try with_reducible rfl)
         try simp only [Act.put, List.setIfInBounds_toArray, List.set_cons_zero, List.set_cons_succ, List.getElem_toArray, List.getElem_cons_succ, List.getElem_cons_zero]
         refine wpAnyH_take (i := 5) (v := ?vv139) rfl (by kernel_rfl) (by kernel_rfl) (by kernel_rfl) (fun _ _ _ h => h) (Or.inl ⟨by rfl, ?hy139⟩) hHeld ?rr139
         case hy139 => (intro w' hSw; obtain ⟨g0, g1, g2, g3⟩ := hSw; go_simp; try with_reducible rfl)
         try simp only [Act.put, List.setIfInBounds_toArray, List.set_cons_zero, List.set_cons_succ, List.getElem_toArray, List.getElem_cons_succ, List.getElem_cons_zero]
         refine wpAnyH_take (i := 6) (v := ?vv140) rfl (by kernel_rfl) (by kernel_rfl) (by kernel_rfl) (fun _ _ _ h => h) (Or.inl ⟨by rfl, ?hy140⟩) hHeld ?rr140
         case hy140 => (intro w' hSw; obtain ⟨g0, g1, g2, g3⟩ := hSw; go_simp; try with_reducible rfl)
         try simp only [Act.put, List.setIfInBounds_toArray, List.set_cons_zero, List.set_cons_succ, List.getElem_toArray, List.getElem_cons_succ, List.getElem_cons_zero]
         refine wpAnyH_take (i := 7) (v := ?vv141) rfl (by kernel_rfl) (by kernel_rfl) (by kernel_rfl) (fun _ _ _ h => h) (Or.inl ⟨by rfl, ?hy141⟩) hHeld ?rr141
         case hy141 => (intro w' hSw; obtain ⟨g0, g1, g2, g3⟩ := hSw; go_simp; try with_reducible rfl)
         try simp only [Act.put, List.setIfInBounds_toArray, List.set_cons_zero, List.set_cons_succ, List.getElem_toArray, List.getElem_cons_succ, List.getElem_cons_zero]
         refine wpAnyH_take (i := 8) (v := ?vv142) rfl (by kernel_rfl) (by kernel_rfl) (by kernel_rfl) (fun _ _ _ h => h) (Or.inl ⟨by rfl, ?hy142⟩) hHeld ?rr142
         case hy142 => (intro w' hSw; obtain ⟨g0, g1, g2, g3⟩ := hSw; go_simp; try with_reducible rfl)
         try simp only [Act.put, List.setIfInBounds_toArray, List.set_cons_zero, List.set_cons_succ, List.getElem_toArray, List.getElem_cons_succ, List.getElem_cons_zero]
         refine wpAnyH_take (i := 9) (v := ?vv143) rfl (by kernel_rfl) (by kernel_rfl) (by kernel_rfl) (fun _ _ _ h => h) (Or.inl ⟨by rfl, ?hy143⟩) hHeld ?rr143
         case hy143 => (intro w' hSw; obtain ⟨g0, g1, g2, g3⟩ := hSw; go_simp; try with_reducible rfl)
         try simp only [Act.put, List.setIfInBounds_toArray, List.set_cons_zero, List.set_cons_succ, List.getElem_toArray, List.getElem_cons_succ, List.getElem_cons_zero]
         refine wpAnyH_ready (rs := [1]) (by kernel_rfl) (by simp) ?_
         refine AllReadyH.cons rfl (fun K hK => ?_) AllReadyH.nil
         go_simp
         have hB1 : Below W0.heap.size W0 (W0.alloc (.cells #[.int .i64 3, strV key, .slice la vals.length lc] 42)).drew := (below_alloc _ _).drew
         have hH1 : (W0.alloc (.cells #[.int .i64 3, strV key, .slice la vals.length lc] 42)).drew.heap[W0.heap.size]? = _ := heap_new W0 (.cells #[.int .i64 3, strV key, .slice la vals.length lc] 42)
         generalize (W0.alloc (.cells #[.int .i64 3, strV key, .slice la vals.length lc] 42)).drew = W1 at *
         refine hK.out _ _ (HD.out _ hB1) (fun hHeld2 => ?_)
         clear hK K hHeld
         have hHeld := hHeld2
         clear hHeld2
         try simp only [Act.put, List.setIfInBounds_toArray, List.set_cons_zero, List.set_cons_succ, List.getElem_toArray, List.getElem_cons_succ, List.getElem_cons_zero]
         refine wpAnyH_ready (rs := [3]) (by kernel_rfl) (by simp) ?_
         refine AllReadyH.cons rfl (fun K hK => ?_) AllReadyH.nil
         go_simp
         go_at_call 22
         refine Calls.mono (by with_reducible exact HM2.out _ _ _ (HB0.out.trans (hB1.mono HB0.out.size)) (cls_new hH1 (HFx.out.later hB1))) ?_
         rintro e W2 ⟨rfl, hb⟩
         have hB2 := hB1.trans (hb.mono hB1.size)
         clear hb hB1 hH1
         go_wp2_with fail
         refine hK.out _ _ (HD.out _ hB2) (fun hHeld2 => ?_)
         clear hK K hHeld
         have hHeld := hHeld2
         clear hHeld2
         try simp only [Act.put, List.setIfInBounds_toArray, List.set_cons_zero, List.set_cons_succ, List.getElem_toArray, List.getElem_cons_succ, List.getElem_cons_zero]
         refine wpAnyH_ready (rs := [10]) (by kernel_rfl) (by simp) ?_
         refine AllReadyH.cons rfl (fun K hK => ?_) AllReadyH.nil
         go_simp
         go_at_call 22
         refine Calls.mono (by with_reducible exact HM1.out _ _ _ (HB0.out.trans (hB2.mono HB0.out.size)) (HC1.out _ (HB0.out.trans (hB2.mono HB0.out.size)))) ?_
         rintro e W3 ⟨rfl, hb⟩
         have hB3 := hB2.trans (hb.mono hB2.size)
         clear hb hB2
         go_wp2_with fail
         refine hK.out _ _ (HD.out _ hB3) (fun hHeld2 => ?_)
         clear hK K hHeld
         have hHeld := hHeld2
         clear hHeld2
         try simp only [Act.put, List.setIfInBounds_toArray, List.set_cons_zero, List.set_cons_succ, List.getElem_toArray, List.getElem_cons_succ, List.getElem_cons_zero]
         refine wpAnyH_take (i := 11) (v := ?vv144) rfl (by kernel_rfl) (by kernel_rfl) (by kernel_rfl) (fun _ _ _ h => h) (Or.inl ⟨by rfl, ?hy144⟩) hHeld ?rr144
         case hy144 => (intro w' hSw; obtain ⟨g0, g1, g2, g3⟩ := hSw; go_simp; try with_reducible rfl)
         try simp only [Act.put, List.setIfInBounds_toArray, List.set_cons_zero, List.set_cons_succ, List.getElem_toArray, List.getElem_cons_succ, List.getElem_cons_zero]
         refine wpAnyH_done (by kernel_rfl) ?_ _
         clear hHeld
         have HB4 := Lib.hid (HB0.out.trans (hB3.mono HB0.out.size))
         clear hB3 HD HM1 HM2 HC1
         go_wp2
         go_roundw
         case rel => exact ⟨k + 1, by omega, by go_num, HB4⟩
         case measure => simp [intOf]; omega
       have e1 : (kind == 1) = false := by simpa using h1
       have e2 : (kind == 2) = false := by simpa using h2
       have e3 : (kind == 3) = false := by simpa using h3
       have e4 : (kind == 4) = false := by simpa using h4
       clear hk1 hk63 hkc hkn hck hwr HKk hkd HX HF HMx HLi
       have HB4 := Lib.hid (fun o => HBr.out.alloc HBr.out.size o)
       go_wp2
       go_roundw
       case rel => exact ⟨k + 1, by omega, by go_num, Lib.hid (HB4.out _)⟩
       case measure => simp [intOf]; omega
     · obtain rfl : k = a.length := by omega
       go_wp2
       go_ret
       exact ⟨rfl, HBr.out⟩
end Go.Proofs.YtpkjllliidpgoaaGreatDoor
