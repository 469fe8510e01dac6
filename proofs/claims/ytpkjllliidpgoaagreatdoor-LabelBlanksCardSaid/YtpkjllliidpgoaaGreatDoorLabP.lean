/- Walks of package label: what stands behind a key, and a clause. -/
import Derived.Test.YtpkjllliidpgoaaGreatDoorLabO
set_option linter.unusedSimpArgs false
set_option linter.unusedVariables false
namespace Go.Proofs.YtpkjllliidpgoaaGreatDoor
open Go.ChangeShapes Go.WideShapes Go.ChangeAt Go.RowKit Go.Base Go.Lab

abbrev PC := Int × Bytes × List Bytes
def sndB (key : Bytes) (vs : List Bytes) : Bool := vs.all valB && wordB key
def madeP (k : Int) (key : Bytes) (vs : List Bytes) : Option PC := if sndB key vs then some (k, key, vs) else none
def parseManyB (key text : Bytes) : Option PC := match listedB (cutZ text) with
  | none => none
  | some vs => if cutA text == [105, 110] then madeP 1 key vs else if cutA text == [110, 111, 116, 105, 110] then madeP 2 key vs else none
theorem strs_len {w : World} {A : Option Addr} {l : List Bytes} (h : Strs w A l) : ∀ x ∈ l, x.length ≤ maxLen := fun x hx => by
  obtain ⟨i, hi, rfl⟩ := List.mem_iff_getElem.1 hx
  obtain ⟨_, _, _, _, h1⟩ := h i hi
  exact h1
theorem Strs.other {w w2 : World} {A : Option Addr} {l : List Bytes} {g : Nat} (h : Strs w A l) (o : ∀ k, k ≠ g → w2.heap[k]? = w.heap[k]?) (hA : ∀ a, A = some a → a.block ≠ g) : Strs w2 A l := fun i hi => by
  obtain ⟨b, off, e, c, m⟩ := h i hi
  refine ⟨b, off, e, ?_, m⟩
  rw [(cells_of_other o).1 b _ (hA _ e)]; exact c
theorem Cl.Fit.other {w w2 : World} {c : Cl} {g : Nat} (h : c.Fit w) (o : ∀ k, k ≠ g → w2.heap[k]? = w.heap[k]?) (hA : ∀ a, c.la = some a → a.block ≠ g) : c.Fit w2 := ⟨h.k, h.v.other o hA, h.m, h.c⟩
def ClPost (r : Option PC) (w : World) (e : Ending) (w' : World) : Prop :=
  (r = none → e = .returned (.tuple #[clV0, .bool false])) ∧ (∀ k key vs, r = some (k, key, vs) → ∃ la lc, e = .returned (.tuple #[clV ⟨k, key, la, vs, lc⟩, .bool true]) ∧ (⟨k, key, la, vs, lc⟩ : Cl).Fit w' ∧ (∀ a, la = some a → w.heap.size ≤ a.block) ∧ TyS w' la) ∧ Below w.heap.size w w'
theorem cl_none {w w' : World} {r : Option PC} (h : r = none) (hb : Below w.heap.size w w') : ClPost r w (.returned (.tuple #[clV0, .bool false])) w' :=
  ⟨(fun _ => rfl), (fun _ _ _ h' => by rw [h] at h'; cases h'), hb⟩
theorem cl_some {w w' : World} {r : Option PC} {c : Cl} (h : r = some (c.kind, c.key, c.vals)) (hf : c.Fit w') (ha : ∀ a, c.la = some a → w.heap.size ≤ a.block) (ht : TyS w' c.la) (hb : Below w.heap.size w w') : ClPost r w (.returned (.tuple #[clV c, .bool true])) w' :=
  ⟨(fun h' => by rw [h] at h'; cases h'), (fun k key vs h' => by rw [h] at h'; injection h' with h'; injection h' with h1 h'; injection h' with h2 h3; subst h1; subst h2; subst h3; exact ⟨c.la, c.lc, rfl, hf, ha, ht⟩), hb⟩
theorem made_yes {k : Int} {key : Bytes} {la : Option Addr} {vs : List Bytes} {lc : Nat} {w : World} (hc : (⟨k, key, la, vs, lc⟩ : Cl).Fit w) (hs : sndB key vs = true) :
    Calls Tryz.prog 56 #[.int .i64 k, strV key, .slice la vs.length lc] w fun e w' => e = .returned (.tuple #[clV ⟨k, key, la, vs, lc⟩, .bool true]) ∧ Below w.heap.size w w' := by
  refine (made_any ⟨k, key, la, vs, lc⟩ w hc (strs_len hc.v)).mono ?_
  rintro e w' ⟨rfl, hb⟩
  have : soundB ⟨k, key, la, vs, lc⟩ = true := hs
  rw [this]; exact ⟨rfl, hb⟩
theorem made_no {k : Int} {key : Bytes} {la : Option Addr} {vs : List Bytes} {lc : Nat} {w : World} (hc : (⟨k, key, la, vs, lc⟩ : Cl).Fit w) (hs : sndB key vs = false) :
    Calls Tryz.prog 56 #[.int .i64 k, strV key, .slice la vs.length lc] w fun e w' => e = .returned (.tuple #[clV0, .bool false]) ∧ Below w.heap.size w w' := by
  refine (made_any ⟨k, key, la, vs, lc⟩ w hc (strs_len hc.v)).mono ?_
  rintro e w' ⟨rfl, hb⟩
  have : soundB ⟨k, key, la, vs, lc⟩ = false := hs
  rw [this]; exact ⟨rfl, hb⟩
set_option maxHeartbeats 4000000 in
set_option maxRecDepth 20000 in
theorem parseMany_l (key text : Bytes) (hk : key.length ≤ 1000000) (hl : text.length ≤ 1000000) (w : World) (hV : VarI w) :
    Calls Tryz.prog 58 #[strV key, strV text] w (ClPost (parseManyB key text) w) := by
  have hkey : Hid (key.length ≤ maxLen) := Lib.hid (by unfold maxLen; omega)
  have HC := Lib.hid (fun W => cutWord_l text (by unfold maxLen; omega) W)
  have HLi := Lib.hid (fun W (hb : Below w.heap.size w W) => listed_l (cutZ text) (Nat.le_trans (cutZ_len _) hl) W (hV.later hb))
  have HP : Hid (parseManyB key text = match listedB (cutZ text) with | none => none | some vs => if cutA text == [105, 110] then madeP 1 key vs else if cutA text == [110, 111, 116, 105, 110] then madeP 2 key vs else none) := Lib.hid rfl
  have HF : Hid (∀ vs, listedB (cutZ text) = some vs → vs.length ≤ maxLen) := Lib.hid (fun vs h => Nat.le_trans (listedB_few h) (by have := cutZ_len text; unfold maxLen; omega))
  generalize parseManyB key text = r at *
  generalize listedB (cutZ text) = li at *
  generalize cutA text = s at *
  generalize cutZ text = z at *
  clear hk hl hV
  cases li with
  | none =>
    have HR : Hid (r = none) := Lib.hid HP.out
    clear HP HF
    go_enter Tryz.func58, Tryz.ntmps58
    go_wp2_with (first | (refine wpList_store_new rfl 42 (.tmp 4) (.tmp 22) rfl w.heap.size #[.int .i64 0, .string ⟨#[]⟩, .slice none 0 0] rfl rfl 42 #[.int .i64 0, .string ⟨#[]⟩, .slice none 0 0] HB2.out.r0 (by kernel_rfl) rfl rfl ?_) | (go_at_call 57; refine (HC.out _).mono ?_; rintro e w1 ⟨rfl, hb⟩; have HB1 := Lib.hid ((ResC.start w).call hb); clear hb) | (go_at_call 82; refine (HLi.out _ HB1.out.old).mono ?_; rintro e w3 ⟨h, _, hb⟩; obtain rfl := h rfl; have HB2 := Lib.hid (HB1.out.call hb); clear h hb))
    intro w2 s2 b2 r2 o2
    obtain ⟨c2, f2⟩ := cells_of_heap r2
    have B2 := Lib.hid (b2 w.heap.size w HB2.out.old (Nat.le_refl _))
    clear s2 b2 r2 o2 f2
    go_wp2
    exact bodyPost_ret (v := .tuple #[clV0, .bool false]) (by simp [results, Tryz.results58, go_sem, c2]) rfl (cl_none HR.out B2.out)
  | some vs =>
    have hvm := Lib.hid (HF.out vs rfl)
    clear HF
    cases e1 : (s == [105, 110])
    · cases e2 : (s == [110, 111, 116, 105, 110])
      · have HR : Hid (r = none) := Lib.hid (by rw [HP.out]; simp only; rw [e1, e2]; rfl)
        clear HP
        go_enter Tryz.func58, Tryz.ntmps58
        go_wp2_with (first | (refine wpList_store_new rfl 42 (.tmp 4) (.tmp 38) rfl w.heap.size #[.int .i64 0, .string ⟨#[]⟩, .slice none 0 0] rfl rfl 42 #[.int .i64 0, .string ⟨#[]⟩, .slice none 0 0] HB2.out.r0 (by kernel_rfl) rfl rfl ?_) | (go_at_call 57; refine (HC.out _).mono ?_; rintro e w1 ⟨rfl, hb⟩; have HB1 := Lib.hid ((ResC.start w).call hb); clear hb) | (go_at_call 82; refine (HLi.out _ HB1.out.old).mono ?_; rintro e w3 ⟨_, h, hb⟩; obtain ⟨g, cap, rfl, hst, hcap, hg, hty⟩ := h _ rfl; have HTy := Lib.hid hty; have HB2 := Lib.hid (HB1.out.call hb); have HG : Hid (w.heap.size < g) := Lib.hid (Nat.lt_of_lt_of_le (heap_lt HB1.out.r0) hg); have HFt := Lib.hid (fun k => (⟨hkey.out, hst, hvm.out, hcap⟩ : (⟨k, key, some ⟨g, 0, none⟩, vs, cap⟩ : Cl).Fit w3)); clear h hb hst hcap hg hty))
        intro w2 s2 b2 r2 o2
        obtain ⟨c2, f2⟩ := cells_of_heap r2
        have B2 := Lib.hid (b2 w.heap.size w HB2.out.old (Nat.le_refl _))
        clear s2 b2 r2 o2 f2
        go_wp2
        exact bodyPost_ret (v := .tuple #[clV0, .bool false]) (by simp [results, Tryz.results58, go_sem, c2]) rfl (cl_none HR.out B2.out)
      · skip
        cases hq : sndB key vs
        · have HQ := Lib.hid hq
          have HR : Hid (r = none) := Lib.hid (by rw [HP.out]; simp only; rw [e1, e2]; unfold madeP; rw [hq]; rfl)
          clear HP hq
          go_enter Tryz.func58, Tryz.ntmps58
          go_wp2_with (first | (refine wpList_store_new rfl 42 (.tmp 4) (.tmp 36) rfl w.heap.size #[.int .i64 0, .string ⟨#[]⟩, .slice none 0 0] rfl rfl 42 #[.int .i64 0, .string ⟨#[]⟩, .slice none 0 0] HB3.out.r0 (by kernel_rfl) rfl rfl ?_) | (go_at_call 57; refine (HC.out _).mono ?_; rintro e w1 ⟨rfl, hb⟩; have HB1 := Lib.hid ((ResC.start w).call hb); clear hb) | (go_at_call 82; refine (HLi.out _ HB1.out.old).mono ?_; rintro e w3 ⟨_, h, hb⟩; obtain ⟨g, cap, rfl, hst, hcap, hg, hty⟩ := h _ rfl; have HTy := Lib.hid hty; have HB2 := Lib.hid (HB1.out.call hb); have HG : Hid (w.heap.size < g) := Lib.hid (Nat.lt_of_lt_of_le (heap_lt HB1.out.r0) hg); have HFt := Lib.hid (fun k => (⟨hkey.out, hst, hvm.out, hcap⟩ : (⟨k, key, some ⟨g, 0, none⟩, vs, cap⟩ : Cl).Fit w3)); clear h hb hst hcap hg hty) | (go_at_call 56; refine (made_no (HFt.out 2) HQ.out).mono ?_; rintro e w4 ⟨rfl, hb⟩; have HB3 := Lib.hid (HB2.out.call hb); clear hb))
          intro w2 s2 b2 r2 o2
          obtain ⟨c2, f2⟩ := cells_of_heap r2
          have B2 := Lib.hid (b2 w.heap.size w HB3.out.old (Nat.le_refl _))
          clear s2 b2 r2 o2 f2
          go_wp2
          exact bodyPost_ret (v := .tuple #[clV0, .bool false]) (by simp [results, Tryz.results58, go_sem, c2]) rfl (cl_none HR.out B2.out)
        · have HQ := Lib.hid hq
          have HR : Hid (r = some (2, key, vs)) := Lib.hid (by rw [HP.out]; simp only; rw [e1, e2]; unfold madeP; rw [hq]; rfl)
          clear HP hq
          go_enter Tryz.func58, Tryz.ntmps58
          go_wp2_with (first | (refine wpList_store_new rfl 42 (.tmp 4) (.tmp 36) rfl w.heap.size #[.int .i64 2, strV key, .slice (some ⟨g, 0, none⟩) vs.length cap] rfl rfl 42 #[.int .i64 0, .string ⟨#[]⟩, .slice none 0 0] HB3.out.r0 (by kernel_rfl) rfl rfl ?_) | (go_at_call 57; refine (HC.out _).mono ?_; rintro e w1 ⟨rfl, hb⟩; have HB1 := Lib.hid ((ResC.start w).call hb); clear hb) | (go_at_call 82; refine (HLi.out _ HB1.out.old).mono ?_; rintro e w3 ⟨_, h, hb⟩; obtain ⟨g, cap, rfl, hst, hcap, hg, hty⟩ := h _ rfl; have HTy := Lib.hid hty; have HB2 := Lib.hid (HB1.out.call hb); have HG : Hid (w.heap.size < g) := Lib.hid (Nat.lt_of_lt_of_le (heap_lt HB1.out.r0) hg); have HFt := Lib.hid (fun k => (⟨hkey.out, hst, hvm.out, hcap⟩ : (⟨k, key, some ⟨g, 0, none⟩, vs, cap⟩ : Cl).Fit w3)); clear h hb hst hcap hg hty) | (go_at_call 56; refine (made_yes (HFt.out 2) HQ.out).mono ?_; rintro e w4 ⟨rfl, hb⟩; have HB3 := Lib.hid (HB2.out.call hb); have HFt4 := Lib.hid ((HFt.out 2).later hb); have HTy4 := Lib.hid (HTy.out.later hb); clear hb))
          intro w2 s2 b2 r2 o2
          obtain ⟨c2, f2⟩ := cells_of_heap r2
          have B2 := Lib.hid (b2 w.heap.size w HB3.out.old (Nat.le_refl _))
          have HFt5 := Lib.hid (HFt4.out.other o2 (fun a ha => by injection ha with ha; subst ha; exact Nat.ne_of_gt HG.out))
          have HTy5 := Lib.hid (HTy4.out.other o2 (fun a ha => by injection ha with ha; subst ha; exact Nat.ne_of_gt HG.out))
          clear s2 b2 r2 o2 f2
          go_wp2
          exact bodyPost_ret (v := .tuple #[clV ⟨2, key, some ⟨g, 0, none⟩, vs, cap⟩, .bool true]) (by simp [results, Tryz.results58, go_sem, c2]) rfl (cl_some (c := ⟨2, key, some ⟨g, 0, none⟩, vs, cap⟩) HR.out HFt5.out (fun a ha => by injection ha with ha; subst ha; exact Nat.le_of_lt HG.out) HTy5.out B2.out)
    · skip
      cases hq : sndB key vs
      · have HQ := Lib.hid hq
        have HR : Hid (r = none) := Lib.hid (by rw [HP.out]; simp only; rw [e1]; unfold madeP; rw [hq]; rfl)
        clear HP hq
        go_enter Tryz.func58, Tryz.ntmps58
        go_wp2_with (first | (refine wpList_store_new rfl 42 (.tmp 4) (.tmp 29) rfl w.heap.size #[.int .i64 0, .string ⟨#[]⟩, .slice none 0 0] rfl rfl 42 #[.int .i64 0, .string ⟨#[]⟩, .slice none 0 0] HB3.out.r0 (by kernel_rfl) rfl rfl ?_) | (go_at_call 57; refine (HC.out _).mono ?_; rintro e w1 ⟨rfl, hb⟩; have HB1 := Lib.hid ((ResC.start w).call hb); clear hb) | (go_at_call 82; refine (HLi.out _ HB1.out.old).mono ?_; rintro e w3 ⟨_, h, hb⟩; obtain ⟨g, cap, rfl, hst, hcap, hg, hty⟩ := h _ rfl; have HTy := Lib.hid hty; have HB2 := Lib.hid (HB1.out.call hb); have HG : Hid (w.heap.size < g) := Lib.hid (Nat.lt_of_lt_of_le (heap_lt HB1.out.r0) hg); have HFt := Lib.hid (fun k => (⟨hkey.out, hst, hvm.out, hcap⟩ : (⟨k, key, some ⟨g, 0, none⟩, vs, cap⟩ : Cl).Fit w3)); clear h hb hst hcap hg hty) | (go_at_call 56; refine (made_no (HFt.out 1) HQ.out).mono ?_; rintro e w4 ⟨rfl, hb⟩; have HB3 := Lib.hid (HB2.out.call hb); clear hb))
        intro w2 s2 b2 r2 o2
        obtain ⟨c2, f2⟩ := cells_of_heap r2
        have B2 := Lib.hid (b2 w.heap.size w HB3.out.old (Nat.le_refl _))
        clear s2 b2 r2 o2 f2
        go_wp2
        exact bodyPost_ret (v := .tuple #[clV0, .bool false]) (by simp [results, Tryz.results58, go_sem, c2]) rfl (cl_none HR.out B2.out)
      · have HQ := Lib.hid hq
        have HR : Hid (r = some (1, key, vs)) := Lib.hid (by rw [HP.out]; simp only; rw [e1]; unfold madeP; rw [hq]; rfl)
        clear HP hq
        go_enter Tryz.func58, Tryz.ntmps58
        go_wp2_with (first | (refine wpList_store_new rfl 42 (.tmp 4) (.tmp 29) rfl w.heap.size #[.int .i64 1, strV key, .slice (some ⟨g, 0, none⟩) vs.length cap] rfl rfl 42 #[.int .i64 0, .string ⟨#[]⟩, .slice none 0 0] HB3.out.r0 (by kernel_rfl) rfl rfl ?_) | (go_at_call 57; refine (HC.out _).mono ?_; rintro e w1 ⟨rfl, hb⟩; have HB1 := Lib.hid ((ResC.start w).call hb); clear hb) | (go_at_call 82; refine (HLi.out _ HB1.out.old).mono ?_; rintro e w3 ⟨_, h, hb⟩; obtain ⟨g, cap, rfl, hst, hcap, hg, hty⟩ := h _ rfl; have HTy := Lib.hid hty; have HB2 := Lib.hid (HB1.out.call hb); have HG : Hid (w.heap.size < g) := Lib.hid (Nat.lt_of_lt_of_le (heap_lt HB1.out.r0) hg); have HFt := Lib.hid (fun k => (⟨hkey.out, hst, hvm.out, hcap⟩ : (⟨k, key, some ⟨g, 0, none⟩, vs, cap⟩ : Cl).Fit w3)); clear h hb hst hcap hg hty) | (go_at_call 56; refine (made_yes (HFt.out 1) HQ.out).mono ?_; rintro e w4 ⟨rfl, hb⟩; have HB3 := Lib.hid (HB2.out.call hb); have HFt4 := Lib.hid ((HFt.out 1).later hb); have HTy4 := Lib.hid (HTy.out.later hb); clear hb))
        intro w2 s2 b2 r2 o2
        obtain ⟨c2, f2⟩ := cells_of_heap r2
        have B2 := Lib.hid (b2 w.heap.size w HB3.out.old (Nat.le_refl _))
        have HFt5 := Lib.hid (HFt4.out.other o2 (fun a ha => by injection ha with ha; subst ha; exact Nat.ne_of_gt HG.out))
        have HTy5 := Lib.hid (HTy4.out.other o2 (fun a ha => by injection ha with ha; subst ha; exact Nat.ne_of_gt HG.out))
        clear s2 b2 r2 o2 f2
        go_wp2
        exact bodyPost_ret (v := .tuple #[clV ⟨1, key, some ⟨g, 0, none⟩, vs, cap⟩, .bool true]) (by simp [results, Tryz.results58, go_sem, c2]) rfl (cl_some (c := ⟨1, key, some ⟨g, 0, none⟩, vs, cap⟩) HR.out HFt5.out (fun a ha => by injection ha with ha; subst ha; exact Nat.le_of_lt HG.out) HTy5.out B2.out)
end Go.Proofs.YtpkjllliidpgoaaGreatDoor
