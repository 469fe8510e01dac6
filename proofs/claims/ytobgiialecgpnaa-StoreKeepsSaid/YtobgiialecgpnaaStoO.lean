/- Walks of package store: Crash. -/
import Derived.Test.YtobgiialecgpnaaStoM
import Derived.OrdersHeld
set_option linter.unusedSimpArgs false
set_option linter.unusedVariables false
namespace Go.Sto
/-- How many of a file's bytes last. -/
def leftN (acc : List (List UInt8 × Int)) (f : Fil) : Nat := f.sure + (lastOf acc f.name).toNat
def crashF (acc : List (List UInt8 × Int)) (f : Fil) : Fil := ⟨f.name, f.bytes.take (leftN acc f), leftN acc f, f.stays || decide (0 < leftN acc f)⟩
def crashed (acc : List (List UInt8 × Int)) (l : List Fil) : List Fil := (l.map (crashF acc)).filter (·.stays)
def crashR (st : St) (ks : List (ByteArray × Int)) : Nat × St := match outR st.files ks [] with
  | none => (1, st)
  | some acc => (0, ⟨crashed acc st.files, st.room, -1⟩)
def okSaid (files : List Fil) (k : List UInt8 × Int) : Prop := 0 ≤ k.2 ∧ ∀ f, look files k.1 = some f → k.2 ≤ (f.bytes.length : Int) - (f.sure : Int)
theorem outR_ok {files : List Fil} : ∀ {ks : List (ByteArray × Int)} {acc0 acc : List (List UInt8 × Int)}, outR files ks acc0 = some acc → (∀ k ∈ acc0, okSaid files k) → ∀ k ∈ acc, okSaid files k
  | [], acc0, acc, h, h0 => by
    unfold outR at h; injection h with h; subst h; exact h0
  | k :: ks, acc0, acc, h, h0 => by
    unfold outR at h
    split at h
    · cases h
    · rename_i f hf
      split at h
      · cases h
      · rename_i hn
        refine outR_ok h (fun x hx => ?_)
        rcases List.mem_append.1 hx with hx | hx
        · exact h0 x hx
        · rw [List.mem_singleton.1 hx]
          refine ⟨by show 0 ≤ k.2; exact Int.not_lt.1 (fun h => hn (.inr (.inl h))), fun g hg => ?_⟩
          have : f = g := by
            have h2 := hf.symm.trans hg
            injection h2
          subst this
          exact Int.not_lt.1 (fun h => hn (.inr (.inr h)))
theorem lastOf_ok {files : List Fil} {acc : List (List UInt8 × Int)} (h : ∀ k ∈ acc, okSaid files k) {f : Fil} (hf : look files f.name = some f) (hs : f.sure ≤ f.bytes.length) : 0 ≤ lastOf acc f.name ∧ leftN acc f ≤ f.bytes.length := by
  unfold leftN lastOf
  rcases hk : acc.find? (fun k => k.1 == f.name) with _ | k
  · rw [hk]; exact ⟨Int.le_refl _, hs⟩
  · have h1 := h k (List.mem_of_find?_eq_some hk)
    have h2 : k.1 = f.name := by simpa using List.find?_some hk
    have h3 := h1.2 f (by rw [h2]; exact hf)
    have h4 := h1.1
    rw [hk]
    refine ⟨h4, ?_⟩
    show f.sure + k.2.toNat ≤ _
    omega
theorem rising_mid {f g : Fil} (hn : g.name = f.name) {B : List Fil} : ∀ {A : List Fil}, Rising (A ++ f :: B) → ins g (A ++ f :: B) = A ++ g :: B
  | [], h => by rw [List.nil_append, ins_cons, if_pos hn]; rfl
  | x :: A, h => by
    obtain ⟨h1, h2⟩ := List.pairwise_cons.1 h
    have h3 := h1 f (by simp)
    rw [List.cons_append, ins_cons, if_neg (fun e => lt_irr x.name (by rw [← hn, e] at h3; exact h3)), if_neg (fun e => lt_irr x.name (lt_tr (by rw [← hn] at h3; exact h3) e)), rising_mid hn h2]
    rfl
theorem del_mid {g : Fil} {B : List Fil} : ∀ {A : List Fil}, Rising (A ++ g :: B) → del g.name (A ++ g :: B) = A ++ B
  | [], h => by
    obtain ⟨h1, h2⟩ := List.pairwise_cons.1 h
    unfold del
    rw [List.nil_append, List.filter_cons, if_neg (by simp)]
    exact List.filter_eq_self.2 fun x hx => by
      have := h1 x hx
      simp only [Bool.not_eq_true', beq_eq_false_iff_ne]
      exact fun e => lt_irr x.name (by rw [← e] at this; exact this)
  | x :: A, h => by
    obtain ⟨h1, h2⟩ := List.pairwise_cons.1 h
    have h3 := h1 g (by simp)
    have ih := del_mid h2
    unfold del at *
    rw [List.cons_append, List.filter_cons, if_pos (by simp only [Bool.not_eq_true', beq_eq_false_iff_ne]; exact fun e => lt_irr g.name (by rw [e] at h3; exact h3)), ih]
    rfl
theorem crashed_snoc (acc : List (List UInt8 × Int)) (l : List Fil) (f : Fil) : crashed acc (l ++ [f]) = crashed acc l ++ if (crashF acc f).stays then [crashF acc f] else [] := by
  unfold crashed
  rw [List.map_append, List.filter_append, List.map_cons, List.map_nil, List.filter_cons]
  rfl
end Go.Sto
namespace Go.Proofs.Ytobgiialecgpnaa
open Go.ChangeShapes Go.WideShapes Go.ChangeAt Go.RowKit Go.Base Go.Sto Go.Maps

section
variable {w w1 w' : World} {F G : Nat → Prop} {p bm : Nat} {D : DataW Unit} {es : List Ent} {room : Nat} {left : Int}
theorem own_str_at {w : World} {base n cap k : Nat} {A : Option Addr} {ns : List (List UInt8)} (h : w.ownsRow base 9 1 (.slice A n cap) n (ns.map encStr)) (hk : k < ns.length) : ∃ g, A = some ⟨g, 0, none⟩ ∧ w.cell? ⟨g, k, none⟩ = some (encStr ns[k]) := by
  have hl := h.1
  rw [List.length_map, Nat.mul_one] at hl
  rcases h.2 with ⟨_, h0⟩ | ⟨g, cap', cur, hv, hb, hg, hn, hc, hs, ht⟩
  · omega
  · injection hv with h1 _ _
    refine ⟨g, h1, ?_⟩
    rw [cell_of_row w g k _ _ _ hg, ← Array.getElem?_toList]
    have h2 := congrArg (fun l : List Value => l[k]?) ht
    rw [Nat.mul_one, List.getElem?_take_of_lt (by omega), List.getElem?_map, List.getElem?_eq_getElem hk] at h2
    exact h2
theorem Lst.moved {q : Nat → Prop} {w w' : World} {lm : Nat} {acc : List (List UInt8 × Int)} (h : Lst w lm acc) (hm : Moved q w w') (hn : ¬ q lm) : Lst w' lm acc := by
  obtain ⟨D, ⟨E, clock, hb, r⟩, h2⟩ := h
  exact ⟨D, ⟨E, clock, hm.heap hb hn, r⟩, h2⟩
theorem Lst.ne {w : World} {lm k : Nat} {acc : List (List UInt8 × Int)} {cs : Array Value} {t : TypeId} {z : Nat × Nat} (h : Lst w lm acc) (hk : w.heap[k]? = some (.cells cs t z)) : lm ≠ k := fun e => by
  obtain ⟨D, ⟨E, clock, hb, _⟩, _⟩ := h
  rw [e, hk] at hb; cases hb
theorem crash_keep {w3 wr w' : World} {lm base n : Nat} {A3 : Option Addr} {c3 : Nat} {ns : List Value} {acc : List (List UInt8 × Int)} (h : StoX wr F p bm D es room left) {e : Ent} (he : e ∈ es) (hm : Moved (fun k => k = e.a ∨ k = bm) wr w')
    (hrow : wr.ownsRow base 9 1 (.slice A3 n c3) n ns) (hl : Lst wr lm acc) (hlm : lm ≠ bm) (hM : Moved F w3 wr) : w'.ownsRow base 9 1 (.slice A3 n c3) n ns ∧ Lst w' lm acc ∧ Moved F w3 w' := by
  refine ⟨own_moved hrow hm (fun k hk hq => ?_), hl.moved hm (fun hq => ?_), hM.trans hm (fun k _ hq => ?_)⟩
  · rcases hq with rfl | rfl
    · exact own_ne hrow (h.file e he) (by decide) hk
    · rcases hrow.2 with ⟨h0, _⟩ | ⟨g, cap, cur, h0, _, hg, _⟩
      · rw [h0] at hk; cases hk
      · rw [h0] at hk; have hk := Option.some.inj hk; exact h.bm_ne hg hk.symm
  · rcases hq with hq | hq
    · exact hl.ne (h.file e he) hq
    · exact hlm hq
  · rcases hq with rfl | rfl
    · exact (h.inF.2.2 e he).1
    · exact h.inF.2.1
set_option maxHeartbeats 8000000 in
set_option maxRecDepth 20000 in
theorem crash_any {st : St} (h : Sto w F p st) (A : Option Addr) (ks : List (ByteArray × Int)) (n c : Nat) (hk : Kepts w A ks) (hn : ks.length = n) (hm : n ≤ maxLen) :
    Calls Try.prog 19 #[.pointer (some ⟨p, 0, none⟩), .slice A n c] w (StepPost F (fun k => F k ∨ w.heap.size ≤ k) p (crashR st ks) w) := by
  obtain ⟨bm, D, es, hx, hes⟩ := h
  have HC := Lib.hid (closed_any hx)
  have HO := Lib.hid (outlasting_any hx A ks n c hk hn hm)
  rw [hes] at HO
  have hst : ∀ w', Below w.heap.size w w' → Sto w' (fun k => F k ∨ w.heap.size ≤ k) p st ∧ Moved F w w' := fun w' hb => ⟨⟨bm, D, es, (hx.later hb).wide (fun k h => .inl h), hes⟩, Below.movedNew hb⟩
  unfold crashR
  rcases hr : outR st.files ks [] with _ | acc
  · rw [hr] at HO
    have HS := Lib.hid hst
    clear hx hk hn hm hst hes hr
    go_enter Try.func19, Try.ntmps19
    go_wp2_with (first
      | (go_at_call 22; refine Calls.mono (by with_reducible exact HC.out) ?_; rintro e w1 ⟨rfl, rfl⟩)
      | (go_at_call 45; refine Calls.mono (by with_reducible exact HO.out) ?_; rintro e w2 ⟨rfl, hb⟩; have HB2 := Lib.hid hb; clear hb))
    go_ret
    exact ⟨rfl, HS.out _ HB2.out⟩
  · rw [hr] at HO
    have hok := outR_ok hr (fun k hk => by cases hk)
    have HOk : Hid (∀ f ∈ st.files, 0 ≤ lastOf acc f.name ∧ leftN acc f ≤ f.bytes.length) := Lib.hid (fun f hf => by
      rw [← hes] at hf
      obtain ⟨e, he, rfl⟩ := List.mem_map.1 hf
      refine lastOf_ok hok ?_ (hx.sures e he)
      rw [← hes]
      exact look_of_mem hx.rising (List.mem_map.2 ⟨e, he, rfl⟩))
    have HX := Lib.hid hx
    have HE := Lib.hid hes
    have HNl : Hid ((es.map (·.f.name)) = st.files.map (·.name)) := Lib.hid (by rw [← hes, List.map_map]; rfl)
    have HFi := Lib.hid hx.inF
    have h64 : st.files.length ≤ 64 := by rw [← hes, List.length_map]; exact hx.few
    have HNm : Hid (∀ f ∈ st.files, f.name.length ≤ 24) := Lib.hid (fun f hf => by
      rw [← hes] at hf
      obtain ⟨e, he, rfl⟩ := List.mem_map.1 hf
      have := hx.named e he
      unfold okName at this
      rw [Bool.and_eq_true, Bool.and_eq_true, decide_eq_true_eq, decide_eq_true_eq] at this
      exact this.1.2)
    clear hk hn hm hst hr hok
    go_enter Try.func19, Try.ntmps19
    go_wp2_with (first
      | (go_at_call 22; refine Calls.mono (by with_reducible exact HC.out) ?_; rintro e w1 ⟨rfl, rfl⟩)
      | (go_at_call 45; refine Calls.mono (by with_reducible exact HO.out) ?_; rintro e w2 ⟨⟨lm, rfl, hls, hlm⟩, hb⟩; have HLm := Lib.hid hlm; have HB2 := Lib.hid hb; have HLs := Lib.hid hls; have HX2 := Lib.hid (HX.out.later hb); clear hb hls hlm)
      | (go_at_call 23; refine Calls.mono (by with_reducible exact names_any HX2.out) ?_; rintro e w3 ⟨A3, c3, rfl, hrow, hb⟩; rw [HNl.out, List.length_map] at hrow ⊢; have HB3 := Lib.hid (HB2.out.trans (hb.mono HB2.out.size)); have HLs3 := Lib.hid (HLs.out.later hb); have HX3 := Lib.hid (HX2.out.later hb); have HRow := Lib.hid hrow; have HZ3 := Lib.hid hb.size; clear hb hrow))
    obtain ⟨N, HNN⟩ : ∃ N, Hid (N = st.files.length) := ⟨_, Lib.hid rfl⟩
    rw [← HNN.out] at h64 ⊢
    go_loopw [23] (fun iv wr => ∃ (k : Nat) (D' : DataW Unit) (es' : List Ent), k ≤ N ∧ iv = .int .i64 (k : Int) ∧ Hid (StoX wr F p bm D' es' st.room st.left) ∧ Hid (es'.map (·.f) = crashed acc (st.files.take k) ++ st.files.drop k) ∧ Hid (wr.ownsRow w2.heap.size 9 1 (.slice A3 st.files.length c3) st.files.length ((st.files.map (·.name)).map encStr)) ∧ Hid (Lst wr lm acc) ∧ Hid (Moved F w3 wr)) (fun iv _ => N - (intOf iv).toNat)
    case atStart => exact ⟨0, D, es, Nat.zero_le _, rfl, HX3, Lib.hid (by rw [HE.out]; rfl), HRow, HLs3, Lib.hid (Moved.refl _ _)⟩
    case round =>
      obtain ⟨k, D', es', hkN, rfl, HXr, HEr, HRr, HLr, HMr⟩ := hrel
      have hkz : (0 : Int) ≤ (k : Int) := by omega
      by_cases hlt : k < N
      · have hlt' : (k : Int) < (N : Int) := by omega
        have hkl : k < st.files.length := by have := HNN.out; omega
        obtain ⟨g, rfl, c8⟩ := own_str_at HRr.out (k := k) (by rw [List.length_map]; exact hkl)
        rw [List.getElem_map] at c8
        have HDr : Hid (st.files.drop k = st.files[k] :: st.files.drop (k + 1)) := Lib.hid (List.drop_eq_getElem_cons hkl)
        have HTk : Hid (st.files.take (k + 1) = st.files.take k ++ [st.files[k]]) := Lib.hid (List.take_succ_eq_append_getElem hkl)
        have hfm : st.files[k] ∈ st.files := List.getElem_mem hkl
        obtain ⟨f, hf⟩ : ∃ f, f = st.files[k] := ⟨_, rfl⟩
        rw [← hf] at c8 HDr HTk hfm
        obtain ⟨s, hs1, hs2, hs3⟩ : ∃ s : ByteArray, encStr f.name = .string s ∧ s.data.toList = f.name ∧ s.size ≤ maxLen := ⟨⟨f.name.toArray⟩, rfl, by simp, by
          have := HNm.out f hfm
          show f.name.toArray.size ≤ maxLen
          unfold maxLen
          simp; omega⟩
        rw [hs1] at c8
        have hfe : f ∈ es'.map (·.f) := by rw [HEr.out, HDr.out]; simp
        obtain ⟨e, he, hef⟩ := List.mem_map.1 hfe
        clear hf
        subst hef
        have hen : e.f.name = s.data.toList := hs2.symm
        have hrun := HXr.out.look_hit he hs3 hen false
        rw [if_neg (by simp)] at hrun
        have hD := (Below.refl wr.heap.size wr).drew
        have HXd := Lib.hid (HXr.out.later hD)
        have hlk := (HLr.out.later hD).look hs3 false
        rw [if_neg (by simp), hs2] at hlk
        have c5 := HXr.out.cells.1
        have hfile := HXd.out.file e he
        have hrow := HXd.out.row e he
        rw [show e.cells = #[.slice e.A e.f.bytes.length e.c, .int .i64 (e.f.sure : Int), .bool e.f.stays] from rfl] at hfile
        have hcap := own_le hrow
        have c7 : wr.drew.cell? ⟨e.a, 1, none⟩ = some (.int .i64 (e.f.sure : Int)) := cell_of_row _ _ 1 _ _ _ hfile
        obtain ⟨hk1, hk2⟩ := HOk.out e.f hfm
        have HCut := Lib.hid (cutAtCrash_any e.a e.f.bytes.length e.c e.f.sure (leftN acc e.f) e.A e.f.stays wr.drew hfile hk2 hcap.1 hcap.2)
        have hfit := HXr.out.fits
        have hue : e.f.bytes.length ≤ used (es'.map (·.f)) := used_le (List.mem_map.2 ⟨e, he, rfl⟩)
        have hwl : IntKind.i64.wrap ((e.f.sure : Int) + lastOf acc e.f.name) = ((leftN acc e.f : Nat) : Int) := by
          rw [IntKind.wrap_i64]; unfold leftN at hk2 ⊢; omega
        have HRef := Lib.hid (fun en w5 hfp => HXd.out.refile he (w' := w5) (en := en) (m := leftN acc e.f) (sure := leftN acc e.f) (stays := e.f.stays || decide (0 < leftN acc e.f)) hk2 (Nat.le_refl _) hfp)
        have HRis := Lib.hid (HXr.out.rising)
        have HMap : Hid ((insE ⟨⟨e.f.name, e.f.bytes.take (leftN acc e.f), leftN acc e.f, e.f.stays || decide (0 < leftN acc e.f)⟩, e.a, e.A, e.c⟩ es').map (·.f) = crashed acc (st.files.take k) ++ crashF acc e.f :: st.files.drop (k + 1)) := Lib.hid (by
          rw [map_insE, HEr.out, HDr.out]
          refine rising_mid (f := e.f) (g := crashF acc e.f) rfl ?_
          have := HRis.out
          rw [HEr.out, HDr.out] at this
          exact this)
        have HHe := Lib.hid he
        have HLb : Hid (lm ≠ bm) := Lib.hid (fun e2 => by
          have h1 := HLm.out
          have h2 : bm < w.heap.size := by obtain ⟨E, clock, hb, _⟩ := HX.out.map; exact heap_lt hb
          omega)
        have HS2 := Lib.hid hs2
        clear hfile hrow hcap hfit hue hk1 hk2 hkl hD hfe he hfm hen hs2 hs1
        go_wp2_with fail
        refine wp_region_held_drew (S := fun _ => True) (by kernel_rfl) trivial (fun hHeld => ?_)
        refine wpAnyH_take (i := 0) (v := ?vv1) rfl (by kernel_rfl) (by kernel_rfl) (by kernel_rfl) (fun _ _ _ h => h) (Or.inl ⟨by rfl, ?hy1⟩) hHeld ?rr1
        case hy1 => (intro w' hSw; go_simp; try with_reducible rfl)
        try simp only [Act.put, List.setIfInBounds_toArray, List.set_cons_zero, List.set_cons_succ, List.getElem_toArray, List.getElem_cons_succ, List.getElem_cons_zero]
        refine wpAnyH_take (i := 1) (v := ?vv2) rfl (by kernel_rfl) (by kernel_rfl) (by kernel_rfl) (fun _ _ _ h => h) (Or.inl ⟨by rfl, ?hy2⟩) hHeld ?rr2
        case hy2 => (intro w' hSw; go_simp; try with_reducible rfl)
        try simp only [Act.put, List.setIfInBounds_toArray, List.set_cons_zero, List.set_cons_succ, List.getElem_toArray, List.getElem_cons_succ, List.getElem_cons_zero]
        refine wpAnyH_take (i := 2) (v := ?vv3) rfl (by kernel_rfl) (by kernel_rfl) (by kernel_rfl) (fun _ _ _ h => h) (Or.inl ⟨by rfl, ?hy3⟩) hHeld ?rr3
        case hy3 => (intro w' hSw; go_simp; try with_reducible rfl)
        try simp only [Act.put, List.setIfInBounds_toArray, List.set_cons_zero, List.set_cons_succ, List.getElem_toArray, List.getElem_cons_succ, List.getElem_cons_zero]
        refine wpAnyH_take (i := 3) (v := ?vv4) rfl (by kernel_rfl) (by kernel_rfl) (by kernel_rfl) (fun _ _ _ h => h) (Or.inl ⟨by rfl, ?hy4⟩) hHeld ?rr4
        case hy4 => (intro w' hSw; go_simp; try with_reducible rfl)
        try simp only [Act.put, List.setIfInBounds_toArray, List.set_cons_zero, List.set_cons_succ, List.getElem_toArray, List.getElem_cons_succ, List.getElem_cons_zero]
        refine wpAnyH_take (i := 5) (v := ?vv5) rfl (by kernel_rfl) (by kernel_rfl) (by kernel_rfl) (fun _ _ _ h => h) (Or.inl ⟨by rfl, ?hy5⟩) hHeld ?rr5
        case hy5 => (intro w' hSw; go_simp; try with_reducible rfl)
        try simp only [Act.put, List.setIfInBounds_toArray, List.set_cons_zero, List.set_cons_succ, List.getElem_toArray, List.getElem_cons_succ, List.getElem_cons_zero]
        refine wpAnyH_take (i := 6) (v := ?vv6) rfl (by kernel_rfl) (by kernel_rfl) (by kernel_rfl) (fun _ _ _ h => h) (Or.inl ⟨by rfl, ?hy6⟩) hHeld ?rr6
        case hy6 => (intro w' hSw; go_simp; try with_reducible rfl)
        try simp only [Act.put, List.setIfInBounds_toArray, List.set_cons_zero, List.set_cons_succ, List.getElem_toArray, List.getElem_cons_succ, List.getElem_cons_zero]
        refine wpAnyH_ready (rs := [4, 7]) (by kernel_rfl) (by simp) ?_
        refine AllReadyH.cons rfl (fun K hK => ?pathA) (AllReadyH.cons rfl (fun K hK => ?pathB) AllReadyH.nil)
        case pathA =>
          try rw [if_pos (by rfl)]
          go_simp
          refine hK.out _ _ trivial (fun hHeld2 => ?_)
          clear hK K hHeld
          have hHeld := hHeld2
          clear hHeld2
          try simp only [Act.put, List.setIfInBounds_toArray, List.set_cons_zero, List.set_cons_succ, List.getElem_toArray, List.getElem_cons_succ, List.getElem_cons_zero]
          refine wpAnyH_ready (rs := [7]) (by kernel_rfl) (by simp) ?_
          refine AllReadyH.cons rfl (fun K hK => ?_) AllReadyH.nil
          try rw [if_pos (by rfl)]
          go_simp
          refine hK.out _ _ trivial (fun hHeld2 => ?_)
          clear hK K hHeld
          have hHeld := hHeld2
          clear hHeld2
          try simp only [Act.put, List.setIfInBounds_toArray, List.set_cons_zero, List.set_cons_succ, List.getElem_toArray, List.getElem_cons_succ, List.getElem_cons_zero]
          refine wpAnyH_take (i := 8) (v := ?vv7) rfl (by kernel_rfl) (by kernel_rfl) (by kernel_rfl) (fun _ _ _ h => h) (Or.inl ⟨by rfl, ?hy7⟩) hHeld ?rr7
          case hy7 => (intro w' hSw; go_simp; try with_reducible rfl)
          try simp only [Act.put, List.setIfInBounds_toArray, List.set_cons_zero, List.set_cons_succ, List.getElem_toArray, List.getElem_cons_succ, List.getElem_cons_zero]
          refine wpAnyH_ready (rs := [9]) (by kernel_rfl) (by simp) ?_
          refine AllReadyH.cons rfl (fun K hK => ?_) AllReadyH.nil
          try rw [if_pos (by rfl)]
          go_simp
          go_at_call 46
          refine Calls.mono (by with_reducible exact HCut.out) ?_
          intro en w5 hfp
          have HX5 := Lib.hid (HRef.out en w5 hfp)
          obtain ⟨rfl, hh5, hm5, hz5⟩ := hfp
          have c9 : w5.cell? ⟨e.a, 2, none⟩ = some (.bool (e.f.stays || decide (0 < leftN acc e.f))) := cell_of_row w5 _ 2 _ _ _ hh5
          have HM5 : Hid (Moved (fun k => k = e.a) wr w5) := Lib.hid (((Moved.refl (fun k => k = e.a) wr).drew).trans hm5 (fun k _ h => h))
          clear hh5 hm5 hz5
          go_wp2_with fail
          refine hK.out _ _ trivial (fun hHeld2 => ?_)
          clear hK K hHeld
          have hHeld := hHeld2
          clear hHeld2
          try simp only [Act.put, List.setIfInBounds_toArray, List.set_cons_zero, List.set_cons_succ, List.getElem_toArray, List.getElem_cons_succ, List.getElem_cons_zero]
          refine wpAnyH_done (by kernel_rfl) ?_ _
          clear hHeld c5 c7 c8 hrun hlk
          have c10 := HX5.out.cells.1
          have HT5 := Lib.hid (HX5.out.map.tidy law_str)
          cases hst : (e.f.stays || decide (0 < leftN acc e.f))
          · rw [hst] at c9
            go_wp2_with (at_delete; refine wpList_delete_own _ rfl _ _ 56 9 rfl 68 law_str Try.underlying56 ptrE bm _ D' rfl HX5.out.map _ _ rfl (key_str hs3) ?_; intro w6 hown6 hturn6; have HM6 : Hid (Moved (fun k => k = bm) w5 w6) := Lib.hid (Moved.grown (p := fun k => k = bm) (Moved.refl _ w5) hturn6.grown (fun k _ e => (Option.some.inj e).symm)); have HX6 := Lib.hid (HX5.out.drop s.data.toList HM6.out hown6 HT5.out); clear hown6 hturn6)
            have HK6 := Lib.hid (crash_keep HXr.out HHe.out ((HM5.out.weaken (fun k _ h => .inl h)).trans HM6.out (fun k _ h => .inr h)) HRr.out HLr.out HLb.out HMr.out)
            go_roundw
            case rel =>
              refine ⟨k + 1, _, _, by omega, by go_num, HX6, Lib.hid ?_, Lib.hid HK6.out.1, Lib.hid HK6.out.2.1, Lib.hid HK6.out.2.2⟩
              have hr5 := HX5.out.rising
              rw [HMap.out] at hr5
              rw [map_delE, HMap.out, HS2.out, HTk.out, crashed_snoc, if_neg (by show ¬ (e.f.stays || decide (0 < leftN acc e.f)) = true; rw [hst]; simp), List.append_nil]
              exact del_mid (g := crashF acc e.f) hr5
            case measure => simp [intOf]; omega
          · rw [hst] at c9
            go_wp2
            have HK5 := Lib.hid (crash_keep HXr.out HHe.out (HM5.out.weaken (fun k _ h => .inl h)) HRr.out HLr.out HLb.out HMr.out)
            go_roundw
            case rel =>
              refine ⟨k + 1, _, _, by omega, by go_num, HX5, Lib.hid ?_, Lib.hid HK5.out.1, Lib.hid HK5.out.2.1, Lib.hid HK5.out.2.2⟩
              rw [HMap.out, HTk.out, crashed_snoc, if_pos (show (crashF acc e.f).stays = true from hst), List.append_assoc]
              rfl
            case measure => simp [intOf]; omega
        case pathB =>
          try rw [if_pos (by rfl)]
          go_simp
          refine hK.out _ _ trivial (fun hHeld2 => ?_)
          clear hK K hHeld
          have hHeld := hHeld2
          clear hHeld2
          try simp only [Act.put, List.setIfInBounds_toArray, List.set_cons_zero, List.set_cons_succ, List.getElem_toArray, List.getElem_cons_succ, List.getElem_cons_zero]
          refine wpAnyH_ready (rs := [4]) (by kernel_rfl) (by simp) ?_
          refine AllReadyH.cons rfl (fun K hK => ?_) AllReadyH.nil
          try rw [if_pos (by rfl)]
          go_simp
          refine hK.out _ _ trivial (fun hHeld2 => ?_)
          clear hK K hHeld
          have hHeld := hHeld2
          clear hHeld2
          try simp only [Act.put, List.setIfInBounds_toArray, List.set_cons_zero, List.set_cons_succ, List.getElem_toArray, List.getElem_cons_succ, List.getElem_cons_zero]
          refine wpAnyH_take (i := 8) (v := ?vv8) rfl (by kernel_rfl) (by kernel_rfl) (by kernel_rfl) (fun _ _ _ h => h) (Or.inl ⟨by rfl, ?hy8⟩) hHeld ?rr8
          case hy8 => (intro w' hSw; go_simp; try with_reducible rfl)
          try simp only [Act.put, List.setIfInBounds_toArray, List.set_cons_zero, List.set_cons_succ, List.getElem_toArray, List.getElem_cons_succ, List.getElem_cons_zero]
          refine wpAnyH_ready (rs := [9]) (by kernel_rfl) (by simp) ?_
          refine AllReadyH.cons rfl (fun K hK => ?_) AllReadyH.nil
          try rw [if_pos (by rfl)]
          go_simp
          go_at_call 46
          refine Calls.mono (by with_reducible exact HCut.out) ?_
          intro en w5 hfp
          have HX5 := Lib.hid (HRef.out en w5 hfp)
          obtain ⟨rfl, hh5, hm5, hz5⟩ := hfp
          have c9 : w5.cell? ⟨e.a, 2, none⟩ = some (.bool (e.f.stays || decide (0 < leftN acc e.f))) := cell_of_row w5 _ 2 _ _ _ hh5
          have HM5 : Hid (Moved (fun k => k = e.a) wr w5) := Lib.hid (((Moved.refl (fun k => k = e.a) wr).drew).trans hm5 (fun k _ h => h))
          clear hh5 hm5 hz5
          go_wp2_with fail
          refine hK.out _ _ trivial (fun hHeld2 => ?_)
          clear hK K hHeld
          have hHeld := hHeld2
          clear hHeld2
          try simp only [Act.put, List.setIfInBounds_toArray, List.set_cons_zero, List.set_cons_succ, List.getElem_toArray, List.getElem_cons_succ, List.getElem_cons_zero]
          refine wpAnyH_done (by kernel_rfl) ?_ _
          clear hHeld c5 c7 c8 hrun hlk
          have c10 := HX5.out.cells.1
          have HT5 := Lib.hid (HX5.out.map.tidy law_str)
          cases hst : (e.f.stays || decide (0 < leftN acc e.f))
          · rw [hst] at c9
            go_wp2_with (at_delete; refine wpList_delete_own _ rfl _ _ 56 9 rfl 68 law_str Try.underlying56 ptrE bm _ D' rfl HX5.out.map _ _ rfl (key_str hs3) ?_; intro w6 hown6 hturn6; have HM6 : Hid (Moved (fun k => k = bm) w5 w6) := Lib.hid (Moved.grown (p := fun k => k = bm) (Moved.refl _ w5) hturn6.grown (fun k _ e => (Option.some.inj e).symm)); have HX6 := Lib.hid (HX5.out.drop s.data.toList HM6.out hown6 HT5.out); clear hown6 hturn6)
            have HK6 := Lib.hid (crash_keep HXr.out HHe.out ((HM5.out.weaken (fun k _ h => .inl h)).trans HM6.out (fun k _ h => .inr h)) HRr.out HLr.out HLb.out HMr.out)
            go_roundw
            case rel =>
              refine ⟨k + 1, _, _, by omega, by go_num, HX6, Lib.hid ?_, Lib.hid HK6.out.1, Lib.hid HK6.out.2.1, Lib.hid HK6.out.2.2⟩
              have hr5 := HX5.out.rising
              rw [HMap.out] at hr5
              rw [map_delE, HMap.out, HS2.out, HTk.out, crashed_snoc, if_neg (by show ¬ (e.f.stays || decide (0 < leftN acc e.f)) = true; rw [hst]; simp), List.append_nil]
              exact del_mid (g := crashF acc e.f) hr5
            case measure => simp [intOf]; omega
          · rw [hst] at c9
            go_wp2
            have HK5 := Lib.hid (crash_keep HXr.out HHe.out (HM5.out.weaken (fun k _ h => .inl h)) HRr.out HLr.out HLb.out HMr.out)
            go_roundw
            case rel =>
              refine ⟨k + 1, _, _, by omega, by go_num, HX5, Lib.hid ?_, Lib.hid HK5.out.1, Lib.hid HK5.out.2.1, Lib.hid HK5.out.2.2⟩
              rw [HMap.out, HTk.out, crashed_snoc, if_pos (show (crashF acc e.f).stays = true from hst), List.append_assoc]
              rfl
            case measure => simp [intOf]; omega
      · obtain rfl : k = N := by omega
        have HEf : Hid (es'.map (·.f) = crashed acc st.files) := Lib.hid (by rw [HEr.out, HNN.out, List.take_length, List.drop_length, List.append_nil])
        obtain ⟨hc, hf⟩ := cells_of_heap HXr.out.self
        have c2 := hc 2
        have f2 := hf 2
        clear hc hf
        go_wp2
        go_ret
        have hs3 := HB3.out.size
        refine ⟨rfl, ⟨bm, D', es', (HXr.out.power (-1) ⟨by decide, by decide⟩).wide (fun k h => .inl h), HEf.out⟩, ((Below.movedNew HB3.out).trans HMr.out (fun _ _ h => h)).setCell (.inr HXr.out.inF.1) _⟩
end
end Go.Proofs.Ytobgiialecgpnaa
