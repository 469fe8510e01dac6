/- Walk of the reference's own parse. -/
import Derived.Test.YtbbleedepmcdfaaDoorCrpL
import Derived.Test.YtbbleedepmcdfaaDoorCroM
import Derived.Test.YtbbleedepmcdfaaDoorCrpB
set_option linter.unusedSimpArgs false
set_option linter.unusedVariables false
namespace Go.Proofs.YtbbleedepmcdfaaDoor
open Go.ChangeShapes Go.WideShapes Go.ChangeAt Go.RowKit Go.Base Go.Cro Go.Civ

theorem owns_strs {w : World} {base : Nat} {e : TypeId} {v : Value} {F : List Bytes} (h : w.ownsRow base e 1 v F.length (F.map fun x => Value.string ⟨x.toArray⟩)) :
    ∃ a c, v = .slice a F.length c ∧ ∀ (i : Nat) (x : Bytes), F[i]? = some x → ∃ gr, a = some ⟨gr, 0, none⟩ ∧ gr < w.heap.size ∧ w.cell? ⟨gr, i, none⟩ = some (.string ⟨x.toArray⟩) := by
  obtain ⟨_, ⟨h1, h0⟩ | ⟨g, cap, cur, h1, hg, hh, hn, hm, hs, hx⟩⟩ := h
  · exact ⟨none, 0, by rw [h1, h0], fun i x hi => by have := (List.getElem?_eq_some_iff.1 hi).1; omega⟩
  · refine ⟨_, _, h1, fun i x hi => ⟨g, rfl, (Array.getElem?_eq_some_iff.1 hh).1, ?_⟩⟩
    have hl := (List.getElem?_eq_some_iff.1 hi).1
    have h2 : (cur.toList.take (F.length * 1))[i]? = some (.string ⟨x.toArray⟩) := by rw [hx]; simp [hi]
    rw [List.getElem?_take_of_lt (by omega), Array.getElem?_toList] at h2
    simpa [World.cell?, hh] using h2
def padB (ms : List (Int × Bool)) : Array Value := #[.int .u64 (ms.getD 0 (0, false)).1, .int .u64 (ms.getD 1 (0, false)).1, .int .u64 (ms.getD 2 (0, false)).1, .int .u64 (ms.getD 3 (0, false)).1, .int .u64 (ms.getD 4 (0, false)).1]
def padS (ms : List (Int × Bool)) : Array Value := #[.bool (ms.getD 0 (0, false)).2, .bool (ms.getD 1 (0, false)).2, .bool (ms.getD 2 (0, false)).2, .bool (ms.getD 3 (0, false)).2, .bool (ms.getD 4 (0, false)).2]
theorem padB_set (ms : List (Int × Bool)) (m : Int × Bool) (h : ms.length < 5) : (padB ms).setIfInBounds ms.length (.int .u64 m.1) = padB (ms ++ [m]) := by
  rcases ms with _ | ⟨m0, _ | ⟨m1, _ | ⟨m2, _ | ⟨m3, _ | ⟨m4, _ | ⟨m5, r⟩⟩⟩⟩⟩⟩ <;> first | (simp at h; omega) | rfl
theorem padS_set (ms : List (Int × Bool)) (m : Int × Bool) (h : ms.length < 5) : (padS ms).setIfInBounds ms.length (.bool m.2) = padS (ms ++ [m]) := by
  rcases ms with _ | ⟨m0, _ | ⟨m1, _ | ⟨m2, _ | ⟨m3, _ | ⟨m4, _ | ⟨m5, r⟩⟩⟩⟩⟩⟩ <;> first | (simp at h; omega) | rfl
/-- Between two fields: what lies in the call's own blocks. -/
structure RpI (w : World) (G : Nat) (a : Option Addr) (F : List Bytes) (ms : List (Int × Bool)) (W : World) : Prop where
  r0 : W.heap[w.heap.size]? = some (.cells #[.int .u64 0, .int .u64 0, .int .u64 0, .int .u64 0, .int .u64 0, .bool false, .bool false] 24 (0, 0))
  r6 : W.heap[G]? = some (.cells (padB ms) 59 (0, 0))
  r7 : W.heap[G + 1]? = some (.cells (padS ms) 60 (0, 0))
  row : ∀ (i : Nat) (x : Bytes), F[i]? = some x → ∃ gr, a = some ⟨gr, 0, none⟩ ∧ gr < G ∧ W.cell? ⟨gr, i, none⟩ = some (.string ⟨x.toArray⟩)
  lt : w.heap.size < G
  big : G + 2 ≤ W.heap.size
  old : Below w.heap.size w W
theorem RpI.call {w : World} {G : Nat} {a : Option Addr} {F : List Bytes} {ms : List (Int × Bool)} {W V : World} (h : RpI w G a F ms W) (hb : Below W.heap.size W V) : RpI w G a F ms V := by
  obtain ⟨r0, r6, r7, row, lt, big, old⟩ := h
  refine ⟨row_below hb (by omega) r0, row_below hb (by omega) r6, row_below hb (by omega) r7, fun i x hi => ?_, lt, Nat.le_trans big hb.size, old.trans (hb.mono old.size)⟩
  obtain ⟨gr, h1, h2, h3⟩ := row i x hi
  exact ⟨gr, h1, h2, (hb.cell (by show gr < _; omega)).trans h3⟩
theorem RpI.put {w : World} {G : Nat} {a : Option Addr} {F : List Bytes} {ms : List (Int × Bool)} {W : World} (h : RpI w G a F ms W) (b : Int) (t : Bool) (i : Nat) (hi : ms.length = i) (h5 : i < 5) :
    RpI w G a F (ms ++ [(b, t)]) ((W.setCell ⟨G, i, none⟩ (.int .u64 b)).setCell ⟨G + 1, i, none⟩ (.bool t)) := by
  obtain ⟨r0, r6, r7, row, lt, big, old⟩ := h
  subst hi
  refine ⟨row_other _ (by omega) (row_other _ (by omega) r0), ?_, ?_, fun i x hx => ?_, lt, by simp; omega, (old.setCell (by simp; omega) _).setCell (by simp; omega) _⟩
  · have := row_set (i := ms.length) (.int .u64 b) r6
    rw [padB_set ms (b, t) h5] at this
    exact row_other _ (by omega) this
  · have := row_set (i := ms.length) (.bool t) (row_other (i := ms.length) (g := G) (.int .u64 b) (by omega) r7)
    rw [padS_set ms (b, t) h5] at this
    exact this
  · obtain ⟨gr, h1, h2, h3⟩ := row i x hx
    exact ⟨gr, h1, h2, cell_other (cell_other h3 (by show gr ≠ _; omega)) (by show gr ≠ _; omega)⟩

set_option maxHeartbeats 1000000 in
theorem refParse_long (l : Bytes) (w : World) (hl : l.length ≤ maxLen) (h : 256 < l.length) :
    Calls Tryd.prog 11 #[.string ⟨l.toArray⟩] w fun e W' => ParsePost l e ∧ Below w.heap.size w W' := by
  have HP : Hid (parseB l = .error (3, 0)) := Lib.hid (by unfold parseB; rw [if_pos h])
  have hs : (256 : Int) < ((⟨l.toArray⟩ : ByteArray).size : Int) := by simp [ByteArray.size]; omega
  have hs2 : ((⟨l.toArray⟩ : ByteArray).size : Int) ≤ 9223372036854775807 := by unfold maxLen at hl; simp [ByteArray.size]; omega
  have hs3 : (256 : Int) < (l.length : Int) := by omega
  clear hl h
  go_enter Tryd.func11, Tryd.ntmps11
  go_wp2
  refine bodyPost_ret (v := .tuple #[.agg #[.int .u64 0, .int .u64 0, .int .u64 0, .int .u64 0, .int .u64 0, .bool false, .bool false], .int .i64 3, .int .i64 0]) (by simp [results, Tryd.results11, go_sem]) rfl ⟨⟨?_, ?_⟩, by go_grown⟩
  · intro e' p he; rw [HP.out] at he; cases he; rfl
  · intro ms hm; rw [HP.out] at hm; cases hm

set_option maxRecDepth 100000 in
set_option maxHeartbeats 8000000 in
theorem refParse_in (l : Bytes) (hl : l.length ≤ 256) (w : World) :
    Calls Tryd.prog 11 #[.string ⟨l.toArray⟩] w fun e W' => ParsePost l e ∧ Below w.heap.size w W' := by
  have HF := Lib.hid (fun w => refFields_any l (by omega) w)
  have HP : Hid (parseB l = parseFrom (fieldsB l) 0 []) := Lib.hid (by unfold parseB; rw [if_neg (by omega)])
  have hs : ¬ (256 : Int) < (l.length : Int) := by omega
  have HM : Hid (∀ x ∈ fieldsB l, x.length ≤ maxLen) := Lib.hid (fun x hx => Nat.le_trans (fields_mem hx).2.2 (by unfold maxLen; omega))
  generalize fieldsB l = F at HF HP HM
  go_enter Tryd.func11, Tryd.ntmps11
  go_wp2_with (first | (go_at_call 17; refine (HF.out _).mono ?_; rintro e W2 ⟨⟨v, rfl, ho⟩, hb⟩; obtain ⟨a, c, rfl, hrow⟩ := owns_strs ho; have HO := Lib.hid hrow; have HB := Lib.hid hb; clear ho hb hrow))
  have HB2 := HB.out
  have hz2 : w.heap.size + 1 ≤ W2.heap.size := by have := HB2.size; simpa using this
  have HI0 : Hid (RpI w W2.heap.size a F [] ((W2.alloc (.cells #[.int .u64 0, .int .u64 0, .int .u64 0, .int .u64 0, .int .u64 0] 59)).alloc (.cells #[.bool false, .bool false, .bool false, .bool false, .bool false] 60))) := Lib.hid (by
    refine ⟨?_, ?_, ?_, fun i x hi => ?_, by omega, by simp, ?_⟩
    · exact heap_old _ (by simp; omega) (heap_old _ (by omega) (row_below HB2 (by simp) (heap_new _ _)))
    · exact heap_old _ (by simp) (heap_new _ _)
    · exact heap_at _ (by simp)
    · obtain ⟨gr, h1, h2, h3⟩ := HO.out i x hi
      exact ⟨gr, h1, h2, ((((Below.refl _ W2).alloc (Nat.le_refl _) _).alloc (by simp) _).cell h2).trans h3⟩
    · exact ((((below_alloc w _).trans (HB2.mono (by simp))).alloc (by omega) _).alloc (by simp; omega) _))
  clear HB HB2 HO HF hl hs
  generalize hG : W2.heap.size = G at *
  generalize ((W2.alloc (.cells #[.int .u64 0, .int .u64 0, .int .u64 0, .int .u64 0, .int .u64 0] 59)).alloc (.cells #[.bool false, .bool false, .bool false, .bool false, .bool false] 60)) = W0 at *
  clear hG
  go_loopw [8] (fun n wr => ∃ (q : Int) (ms : List (Int × Bool)), n = .int .i64 q ∧ q = (ms.length : Int) ∧ q ≤ 5 ∧ q ≤ (F.length : Int) ∧ parseFrom (F.drop ms.length) ms.length ms = parseB l ∧ RpI w G a F ms wr) (fun n _ => (10 - intOf n).toNat)
  case atStart => exact ⟨0, [], rfl, rfl, by omega, by omega, HP.out.symm, HI0.out⟩
  case round =>
    obtain ⟨q, ms, rfl, hq, hq5, hqF, hp, hI⟩ := hrel
    have HI := Lib.hid hI
    clear HI0 hI HP
    by_cases hlt : q < (F.length : Int)
    · obtain ⟨x, hx⟩ : ∃ x, F[ms.length]? = some x := ⟨_, List.getElem?_eq_getElem (by omega)⟩
      have hd : F.drop ms.length = x :: F.drop (ms.length + 1) := by
        obtain ⟨h1, h2⟩ := List.getElem?_eq_some_iff.1 hx
        rw [← h2]; exact List.drop_eq_getElem_cons h1
      rw [hd] at hp
      simp only [parseFrom] at hp
      obtain ⟨gr, rfl, hgr, hcell⟩ := HI.out.row _ _ hx
      have hxl := HM.out x (List.mem_of_getElem? hx)
      have hbig := HI.out.big
      have hltG := HI.out.lt
      by_cases h5 : q < 5
      · rw [if_neg (by omega)] at hp
        cases hf : fieldB ms.length x with
        | error e =>
          rw [hf] at hp
          have HV : Hid (parseB l = .error (e, ms.length)) := Lib.hid hp.symm
          have he : (e != 0) = true := by rcases fieldB_err hf with rfl | rfl <;> rfl
          clear hp hd
          rcases (by omega : q = 0 ∨ q = 1 ∨ q = 2 ∨ q = 3 ∨ q = 4) with rfl | rfl | rfl | rfl | rfl
          · obtain hmk : ms.length = 0 := by omega
            rw [hmk] at hf HV hx hcell
            have HC : Hid (∀ w, Calls Tryd.prog 26 #[.int .i64 0, .string ⟨x.toArray⟩] w fun z w' => z = .returned (.tuple #[.int .u64 0, .bool false, .int .i64 e]) ∧ Below w.heap.size w w') := Lib.hid (fun w => by have h := refField_any 0 (by omega) x hxl w; rw [hf] at h; exact h)
            clear hf hx hxl hq hqF hq5 HM hmk
            go_wp2_with (first | (refine wpList_store_new rfl 24 (.tmp 2) (.tmp 40) rfl w.heap.size #[.int .u64 0, .int .u64 0, .int .u64 0, .int .u64 0, .int .u64 0, .bool false, .bool false] rfl rfl 24 #[.int .u64 0, .int .u64 0, .int .u64 0, .int .u64 0, .int .u64 0, .bool false, .bool false] HJ.out.r0 (by kernel_rfl) rfl rfl ?_) | (go_at_call 26; refine (HC.out _).mono ?_; rintro z W3 ⟨rfl, hb⟩; have HJ := Lib.hid (HI.out.call hb); clear hb))
            intro w2 s2 b2 r2 o2
            obtain ⟨c2, f2⟩ := cells_of_heap r2
            have B2 := Lib.hid (b2 w.heap.size w HJ.out.old (Nat.le_refl _))
            clear s2 b2 r2 o2 f2
            go_wp2
            exact bodyPost_ret (v := .tuple #[.agg #[.int .u64 0, .int .u64 0, .int .u64 0, .int .u64 0, .int .u64 0, .bool false, .bool false], .int .i64 e, .int .i64 0]) (by simp [results, Tryd.results11, go_sem, c2]) rfl ⟨⟨fun e' p he => by rw [HV.out] at he; cases he; rfl, fun ms hm => by rw [HV.out] at hm; cases hm⟩, B2.out⟩
          · obtain hmk : ms.length = 1 := by omega
            rw [hmk] at hf HV hx hcell
            have HC : Hid (∀ w, Calls Tryd.prog 26 #[.int .i64 1, .string ⟨x.toArray⟩] w fun z w' => z = .returned (.tuple #[.int .u64 0, .bool false, .int .i64 e]) ∧ Below w.heap.size w w') := Lib.hid (fun w => by have h := refField_any 1 (by omega) x hxl w; rw [hf] at h; exact h)
            clear hf hx hxl hq hqF hq5 HM hmk
            go_wp2_with (first | (refine wpList_store_new rfl 24 (.tmp 2) (.tmp 40) rfl w.heap.size #[.int .u64 0, .int .u64 0, .int .u64 0, .int .u64 0, .int .u64 0, .bool false, .bool false] rfl rfl 24 #[.int .u64 0, .int .u64 0, .int .u64 0, .int .u64 0, .int .u64 0, .bool false, .bool false] HJ.out.r0 (by kernel_rfl) rfl rfl ?_) | (go_at_call 26; refine (HC.out _).mono ?_; rintro z W3 ⟨rfl, hb⟩; have HJ := Lib.hid (HI.out.call hb); clear hb))
            intro w2 s2 b2 r2 o2
            obtain ⟨c2, f2⟩ := cells_of_heap r2
            have B2 := Lib.hid (b2 w.heap.size w HJ.out.old (Nat.le_refl _))
            clear s2 b2 r2 o2 f2
            go_wp2
            exact bodyPost_ret (v := .tuple #[.agg #[.int .u64 0, .int .u64 0, .int .u64 0, .int .u64 0, .int .u64 0, .bool false, .bool false], .int .i64 e, .int .i64 1]) (by simp [results, Tryd.results11, go_sem, c2]) rfl ⟨⟨fun e' p he => by rw [HV.out] at he; cases he; rfl, fun ms hm => by rw [HV.out] at hm; cases hm⟩, B2.out⟩
          · obtain hmk : ms.length = 2 := by omega
            rw [hmk] at hf HV hx hcell
            have HC : Hid (∀ w, Calls Tryd.prog 26 #[.int .i64 2, .string ⟨x.toArray⟩] w fun z w' => z = .returned (.tuple #[.int .u64 0, .bool false, .int .i64 e]) ∧ Below w.heap.size w w') := Lib.hid (fun w => by have h := refField_any 2 (by omega) x hxl w; rw [hf] at h; exact h)
            clear hf hx hxl hq hqF hq5 HM hmk
            go_wp2_with (first | (refine wpList_store_new rfl 24 (.tmp 2) (.tmp 40) rfl w.heap.size #[.int .u64 0, .int .u64 0, .int .u64 0, .int .u64 0, .int .u64 0, .bool false, .bool false] rfl rfl 24 #[.int .u64 0, .int .u64 0, .int .u64 0, .int .u64 0, .int .u64 0, .bool false, .bool false] HJ.out.r0 (by kernel_rfl) rfl rfl ?_) | (go_at_call 26; refine (HC.out _).mono ?_; rintro z W3 ⟨rfl, hb⟩; have HJ := Lib.hid (HI.out.call hb); clear hb))
            intro w2 s2 b2 r2 o2
            obtain ⟨c2, f2⟩ := cells_of_heap r2
            have B2 := Lib.hid (b2 w.heap.size w HJ.out.old (Nat.le_refl _))
            clear s2 b2 r2 o2 f2
            go_wp2
            exact bodyPost_ret (v := .tuple #[.agg #[.int .u64 0, .int .u64 0, .int .u64 0, .int .u64 0, .int .u64 0, .bool false, .bool false], .int .i64 e, .int .i64 2]) (by simp [results, Tryd.results11, go_sem, c2]) rfl ⟨⟨fun e' p he => by rw [HV.out] at he; cases he; rfl, fun ms hm => by rw [HV.out] at hm; cases hm⟩, B2.out⟩
          · obtain hmk : ms.length = 3 := by omega
            rw [hmk] at hf HV hx hcell
            have HC : Hid (∀ w, Calls Tryd.prog 26 #[.int .i64 3, .string ⟨x.toArray⟩] w fun z w' => z = .returned (.tuple #[.int .u64 0, .bool false, .int .i64 e]) ∧ Below w.heap.size w w') := Lib.hid (fun w => by have h := refField_any 3 (by omega) x hxl w; rw [hf] at h; exact h)
            clear hf hx hxl hq hqF hq5 HM hmk
            go_wp2_with (first | (refine wpList_store_new rfl 24 (.tmp 2) (.tmp 40) rfl w.heap.size #[.int .u64 0, .int .u64 0, .int .u64 0, .int .u64 0, .int .u64 0, .bool false, .bool false] rfl rfl 24 #[.int .u64 0, .int .u64 0, .int .u64 0, .int .u64 0, .int .u64 0, .bool false, .bool false] HJ.out.r0 (by kernel_rfl) rfl rfl ?_) | (go_at_call 26; refine (HC.out _).mono ?_; rintro z W3 ⟨rfl, hb⟩; have HJ := Lib.hid (HI.out.call hb); clear hb))
            intro w2 s2 b2 r2 o2
            obtain ⟨c2, f2⟩ := cells_of_heap r2
            have B2 := Lib.hid (b2 w.heap.size w HJ.out.old (Nat.le_refl _))
            clear s2 b2 r2 o2 f2
            go_wp2
            exact bodyPost_ret (v := .tuple #[.agg #[.int .u64 0, .int .u64 0, .int .u64 0, .int .u64 0, .int .u64 0, .bool false, .bool false], .int .i64 e, .int .i64 3]) (by simp [results, Tryd.results11, go_sem, c2]) rfl ⟨⟨fun e' p he => by rw [HV.out] at he; cases he; rfl, fun ms hm => by rw [HV.out] at hm; cases hm⟩, B2.out⟩
          · obtain hmk : ms.length = 4 := by omega
            rw [hmk] at hf HV hx hcell
            have HC : Hid (∀ w, Calls Tryd.prog 26 #[.int .i64 4, .string ⟨x.toArray⟩] w fun z w' => z = .returned (.tuple #[.int .u64 0, .bool false, .int .i64 e]) ∧ Below w.heap.size w w') := Lib.hid (fun w => by have h := refField_any 4 (by omega) x hxl w; rw [hf] at h; exact h)
            clear hf hx hxl hq hqF hq5 HM hmk
            go_wp2_with (first | (refine wpList_store_new rfl 24 (.tmp 2) (.tmp 40) rfl w.heap.size #[.int .u64 0, .int .u64 0, .int .u64 0, .int .u64 0, .int .u64 0, .bool false, .bool false] rfl rfl 24 #[.int .u64 0, .int .u64 0, .int .u64 0, .int .u64 0, .int .u64 0, .bool false, .bool false] HJ.out.r0 (by kernel_rfl) rfl rfl ?_) | (go_at_call 26; refine (HC.out _).mono ?_; rintro z W3 ⟨rfl, hb⟩; have HJ := Lib.hid (HI.out.call hb); clear hb))
            intro w2 s2 b2 r2 o2
            obtain ⟨c2, f2⟩ := cells_of_heap r2
            have B2 := Lib.hid (b2 w.heap.size w HJ.out.old (Nat.le_refl _))
            clear s2 b2 r2 o2 f2
            go_wp2
            exact bodyPost_ret (v := .tuple #[.agg #[.int .u64 0, .int .u64 0, .int .u64 0, .int .u64 0, .int .u64 0, .bool false, .bool false], .int .i64 e, .int .i64 4]) (by simp [results, Tryd.results11, go_sem, c2]) rfl ⟨⟨fun e' p he => by rw [HV.out] at he; cases he; rfl, fun ms hm => by rw [HV.out] at hm; cases hm⟩, B2.out⟩
        | ok m =>
          obtain ⟨b, t⟩ := m
          rw [hf] at hp
          have HV : Hid (parseFrom (F.drop (ms ++ [(b, t)]).length) (ms ++ [(b, t)]).length (ms ++ [(b, t)]) = parseB l) := Lib.hid (by simpa using hp)
          clear hp hd
          rcases (by omega : q = 0 ∨ q = 1 ∨ q = 2 ∨ q = 3 ∨ q = 4) with rfl | rfl | rfl | rfl | rfl
          · obtain hmk : ms.length = 0 := by omega
            have HC : Hid (∀ w, Calls Tryd.prog 26 #[.int .i64 0, .string ⟨x.toArray⟩] w fun z w' => z = .returned (.tuple #[.int .u64 b, .bool t, .int .i64 0]) ∧ Below w.heap.size w w') := Lib.hid (fun w => by have h := refField_any 0 (by omega) x hxl w; rw [hmk] at hf; rw [hf] at h; exact h)
            rw [hmk] at hcell
            have HMK := Lib.hid hmk
            have HLT := Lib.hid hlt
            clear hf hx hxl hq hqF hq5 HM hmk
            go_wp2_with (first | (go_at_call 26; refine (HC.out _).mono ?_; rintro z W3 ⟨rfl, hb⟩; have HJ := Lib.hid (HI.out.call hb); have hbig3 := HJ.out.big; obtain ⟨c6, f6⟩ := cells_of_heap HJ.out.r6; obtain ⟨c7, f7⟩ := cells_of_heap HJ.out.r7; clear hb))
            go_roundw
            case rel => exact ⟨1, ms ++ [(b, t)], rfl, by have := HMK.out; simp; omega, by omega, by have := HLT.out; omega, HV.out, HJ.out.put b t 0 HMK.out (by omega)⟩
            case measure => first | (simp [intOf]; done) | (simp [intOf]; omega)
          · obtain hmk : ms.length = 1 := by omega
            have HC : Hid (∀ w, Calls Tryd.prog 26 #[.int .i64 1, .string ⟨x.toArray⟩] w fun z w' => z = .returned (.tuple #[.int .u64 b, .bool t, .int .i64 0]) ∧ Below w.heap.size w w') := Lib.hid (fun w => by have h := refField_any 1 (by omega) x hxl w; rw [hmk] at hf; rw [hf] at h; exact h)
            rw [hmk] at hcell
            have HMK := Lib.hid hmk
            have HLT := Lib.hid hlt
            clear hf hx hxl hq hqF hq5 HM hmk
            go_wp2_with (first | (go_at_call 26; refine (HC.out _).mono ?_; rintro z W3 ⟨rfl, hb⟩; have HJ := Lib.hid (HI.out.call hb); have hbig3 := HJ.out.big; obtain ⟨c6, f6⟩ := cells_of_heap HJ.out.r6; obtain ⟨c7, f7⟩ := cells_of_heap HJ.out.r7; clear hb))
            go_roundw
            case rel => exact ⟨2, ms ++ [(b, t)], rfl, by have := HMK.out; simp; omega, by omega, by have := HLT.out; omega, HV.out, HJ.out.put b t 1 HMK.out (by omega)⟩
            case measure => first | (simp [intOf]; done) | (simp [intOf]; omega)
          · obtain hmk : ms.length = 2 := by omega
            have HC : Hid (∀ w, Calls Tryd.prog 26 #[.int .i64 2, .string ⟨x.toArray⟩] w fun z w' => z = .returned (.tuple #[.int .u64 b, .bool t, .int .i64 0]) ∧ Below w.heap.size w w') := Lib.hid (fun w => by have h := refField_any 2 (by omega) x hxl w; rw [hmk] at hf; rw [hf] at h; exact h)
            rw [hmk] at hcell
            have HMK := Lib.hid hmk
            have HLT := Lib.hid hlt
            clear hf hx hxl hq hqF hq5 HM hmk
            go_wp2_with (first | (go_at_call 26; refine (HC.out _).mono ?_; rintro z W3 ⟨rfl, hb⟩; have HJ := Lib.hid (HI.out.call hb); have hbig3 := HJ.out.big; obtain ⟨c6, f6⟩ := cells_of_heap HJ.out.r6; obtain ⟨c7, f7⟩ := cells_of_heap HJ.out.r7; clear hb))
            go_roundw
            case rel => exact ⟨3, ms ++ [(b, t)], rfl, by have := HMK.out; simp; omega, by omega, by have := HLT.out; omega, HV.out, HJ.out.put b t 2 HMK.out (by omega)⟩
            case measure => first | (simp [intOf]; done) | (simp [intOf]; omega)
          · obtain hmk : ms.length = 3 := by omega
            have HC : Hid (∀ w, Calls Tryd.prog 26 #[.int .i64 3, .string ⟨x.toArray⟩] w fun z w' => z = .returned (.tuple #[.int .u64 b, .bool t, .int .i64 0]) ∧ Below w.heap.size w w') := Lib.hid (fun w => by have h := refField_any 3 (by omega) x hxl w; rw [hmk] at hf; rw [hf] at h; exact h)
            rw [hmk] at hcell
            have HMK := Lib.hid hmk
            have HLT := Lib.hid hlt
            clear hf hx hxl hq hqF hq5 HM hmk
            go_wp2_with (first | (go_at_call 26; refine (HC.out _).mono ?_; rintro z W3 ⟨rfl, hb⟩; have HJ := Lib.hid (HI.out.call hb); have hbig3 := HJ.out.big; obtain ⟨c6, f6⟩ := cells_of_heap HJ.out.r6; obtain ⟨c7, f7⟩ := cells_of_heap HJ.out.r7; clear hb))
            go_roundw
            case rel => exact ⟨4, ms ++ [(b, t)], rfl, by have := HMK.out; simp; omega, by omega, by have := HLT.out; omega, HV.out, HJ.out.put b t 3 HMK.out (by omega)⟩
            case measure => first | (simp [intOf]; done) | (simp [intOf]; omega)
          · obtain hmk : ms.length = 4 := by omega
            have HC : Hid (∀ w, Calls Tryd.prog 26 #[.int .i64 4, .string ⟨x.toArray⟩] w fun z w' => z = .returned (.tuple #[.int .u64 b, .bool t, .int .i64 0]) ∧ Below w.heap.size w w') := Lib.hid (fun w => by have h := refField_any 4 (by omega) x hxl w; rw [hmk] at hf; rw [hf] at h; exact h)
            rw [hmk] at hcell
            have HMK := Lib.hid hmk
            have HLT := Lib.hid hlt
            clear hf hx hxl hq hqF hq5 HM hmk
            go_wp2_with (first | (go_at_call 26; refine (HC.out _).mono ?_; rintro z W3 ⟨rfl, hb⟩; have HJ := Lib.hid (HI.out.call hb); have hbig3 := HJ.out.big; obtain ⟨c6, f6⟩ := cells_of_heap HJ.out.r6; obtain ⟨c7, f7⟩ := cells_of_heap HJ.out.r7; clear hb))
            go_roundw
            case rel => exact ⟨5, ms ++ [(b, t)], rfl, by have := HMK.out; simp; omega, by omega, by have := HLT.out; omega, HV.out, HJ.out.put b t 4 HMK.out (by omega)⟩
            case measure => first | (simp [intOf]; done) | (simp [intOf]; omega)
      · obtain rfl : q = 5 := by omega
        rw [if_pos (by omega)] at hp
        have HV : Hid (parseB l = .error (20, 5)) := Lib.hid hp.symm
        have R := Lib.hid HI.out.r0
        clear hp hd hcell hx hxl
        have hg5 : (5 : Int) < (F.length : Int) := hlt
        have hn5 : ¬ (F.length : Int) < 5 := by omega
        clear hq5 hqF hq h5
        go_wp2_with (first | (refine wpList_store_new rfl 24 (.tmp 2) (.tmp 58) rfl w.heap.size #[.int .u64 0, .int .u64 0, .int .u64 0, .int .u64 0, .int .u64 0, .bool false, .bool false] rfl rfl 24 #[.int .u64 0, .int .u64 0, .int .u64 0, .int .u64 0, .int .u64 0, .bool false, .bool false] R.out (by kernel_rfl) rfl rfl ?_))
        intro w2 s2 b2 r2 o2
        obtain ⟨c2, f2⟩ := cells_of_heap r2
        have B2 := Lib.hid (b2 w.heap.size w HI.out.old (Nat.le_refl _))
        clear s2 b2 r2 o2 f2
        go_wp2
        exact bodyPost_ret (v := .tuple #[.agg #[.int .u64 0, .int .u64 0, .int .u64 0, .int .u64 0, .int .u64 0, .bool false, .bool false], .int .i64 20, .int .i64 5]) (by simp [results, Tryd.results11, go_sem, c2]) rfl ⟨⟨fun e' p he => by rw [HV.out] at he; cases he; rfl, fun ms hm => by rw [HV.out] at hm; cases hm⟩, B2.out⟩
    · have hqe : q = (F.length : Int) := by omega
      rw [List.drop_of_length_le (by omega)] at hp
      simp only [parseFrom] at hp
      have hbig := HI.out.big
      have hltG := HI.out.lt
      have R := Lib.hid HI.out.r0
      by_cases h5 : (F.length : Int) < 5
      · rw [if_pos (by omega)] at hp
        have HV : Hid (parseB l = .error (20, F.length)) := Lib.hid (by rw [← hp, show F.length = ms.length by omega])
        clear hp hq hqF hq5
        subst hqe
        go_wp2_with (first | (refine wpList_store_new rfl 24 (.tmp 2) (.tmp 52) rfl w.heap.size #[.int .u64 0, .int .u64 0, .int .u64 0, .int .u64 0, .int .u64 0, .bool false, .bool false] rfl rfl 24 #[.int .u64 0, .int .u64 0, .int .u64 0, .int .u64 0, .int .u64 0, .bool false, .bool false] R.out (by kernel_rfl) rfl rfl ?_))
        intro w2 s2 b2 r2 o2
        obtain ⟨c2, f2⟩ := cells_of_heap r2
        have B2 := Lib.hid (b2 w.heap.size w HI.out.old (Nat.le_refl _))
        clear s2 b2 r2 o2 f2
        go_wp2
        exact bodyPost_ret (v := .tuple #[.agg #[.int .u64 0, .int .u64 0, .int .u64 0, .int .u64 0, .int .u64 0, .bool false, .bool false], .int .i64 20, .int .i64 (F.length : Nat)]) (by simp [results, Tryd.results11, go_sem, c2]) rfl ⟨⟨fun e' p he => by rw [HV.out] at he; cases he; rfl, fun ms hm => by rw [HV.out] at hm; cases hm⟩, B2.out⟩
      · have hF5 : (F.length : Int) = 5 := by omega
        rw [if_neg (by omega)] at hp
        have HV : Hid (parseB l = .ok ms) := Lib.hid hp.symm
        have hm5 : ms.length = 5 := by omega
        obtain ⟨b0, t0, b1, t1, b2, t2, b3, t3, b4, t4, rfl⟩ : ∃ b0 t0 b1 t1 b2 t2 b3 t3 b4 t4, ms = [(b0, t0), (b1, t1), (b2, t2), (b3, t3), (b4, t4)] := by
          rcases ms with _ | ⟨⟨b0, t0⟩, _ | ⟨⟨b1, t1⟩, _ | ⟨⟨b2, t2⟩, _ | ⟨⟨b3, t3⟩, _ | ⟨⟨b4, t4⟩, _ | ⟨_, r⟩⟩⟩⟩⟩⟩
          all_goals first | (exact ⟨_, _, _, _, _, _, _, _, _, _, rfl⟩) | (exfalso; simp at hm5; done) | (exfalso; simp at hm5; omega)
        obtain ⟨c6, f6⟩ := cells_of_heap HI.out.r6
        obtain ⟨c7, f7⟩ := cells_of_heap HI.out.r7
        have hsp : specV [(b0, t0), (b1, t1), (b2, t2), (b3, t3), (b4, t4)] = .agg #[.int .u64 b0, .int .u64 b1, .int .u64 b2, .int .u64 b3, .int .u64 b4, .bool t2, .bool t4] := rfl
        have k0 : wr.cell? ⟨G, 0, none⟩ = some (.int .u64 b0) := c6 0
        have k1 : wr.cell? ⟨G, 1, none⟩ = some (.int .u64 b1) := c6 1
        have k2 : wr.cell? ⟨G, 2, none⟩ = some (.int .u64 b2) := c6 2
        have k3 : wr.cell? ⟨G, 3, none⟩ = some (.int .u64 b3) := c6 3
        have k4 : wr.cell? ⟨G, 4, none⟩ = some (.int .u64 b4) := c6 4
        have k5 : wr.cell? ⟨G + 1, 2, none⟩ = some (.bool t2) := c7 2
        have k6 : wr.cell? ⟨G + 1, 4, none⟩ = some (.bool t4) := c7 4
        have hn5 : ¬ (5 : Int) < (F.length : Int) := by omega
        clear c6 f6 c7 f7 hp hq hqF hq5 hm5
        have hqe5 : q = 5 := by omega
        clear hqe
        subst hqe5
        go_wp2_with (first | (refine wpList_store_new rfl 24 (.tmp 2) (.tmp 73) rfl w.heap.size #[.int .u64 b0, .int .u64 b1, .int .u64 b2, .int .u64 b3, .int .u64 b4, .bool t2, .bool t4] rfl rfl 24 #[.int .u64 0, .int .u64 0, .int .u64 0, .int .u64 0, .int .u64 0, .bool false, .bool false] R.out (by kernel_rfl) rfl rfl ?_))
        intro w2 s2 b2' r2 o2
        obtain ⟨c2, f2⟩ := cells_of_heap r2
        have B2 := Lib.hid (b2' w.heap.size w HI.out.old (Nat.le_refl _))
        clear s2 b2' r2 o2 f2
        go_wp2
        exact bodyPost_ret (v := .tuple #[.agg #[.int .u64 b0, .int .u64 b1, .int .u64 b2, .int .u64 b3, .int .u64 b4, .bool t2, .bool t4], .int .i64 0, .int .i64 0]) (by simp [results, Tryd.results11, go_sem, c2]) rfl ⟨⟨fun e' p he => by (rw [HV.out] at he; cases he), fun ms hm => by rw [HV.out] at hm; cases hm; rfl⟩, B2.out⟩
theorem refParse_any (l : Bytes) (hl : l.length ≤ maxLen) (w : World) :
    Calls Tryd.prog 11 #[.string ⟨l.toArray⟩] w fun e W' => ParsePost l e ∧ Below w.heap.size w W' := by
  by_cases h : 256 < l.length
  · exact refParse_long l w hl h
  · exact refParse_in l (by omega) w
end Go.Proofs.YtbbleedepmcdfaaDoor
