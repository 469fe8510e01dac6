/- Package wave: bounds: the first wave that keeps those behind it shut, the first one that halts them. -/
import Derived.Test.YtcbnankocjlobaaWavE
import Derived.Maps.RangeWalk
import Derived.Deep.RegionHeld3
set_option linter.unusedSimpArgs false
set_option linter.unusedVariables false
namespace Go.Proofs.Ytcbnankocjlobaa
open Go.ChangeShapes Go.WideShapes Go.ChangeAt Go.RowKit Go.Base Go.Maps

def ttB (_ : Stp) : Bool := true
theorem allF_nil : allF [] = ttB := rfl
theorem allF_one (f : Fnv) : allF [f] = f.ev := by funext s; simp [allF]
def endB (l : List Stp) (x : Int) : Bool := cnt (andW leftB x) l == 0
def badW (fai : Int) (l : List Stp) (x : Int) : Bool := badN fai (cnt (andW failB x) l) (cnt (andW ttB x) l)
def shutC (fai : Int) (l : List Stp) (x : Int) : Bool := !endB l x || badW fai l x
def haltC (fai : Int) (l : List Stp) (x : Int) : Bool := endB l x && badW fai l x
def ThereW (l : List Stp) (x : Int) : Prop := ∃ s ∈ l, s.wv = x
theorem there_iff (l : List Stp) (x : Int) : 0 < cnt (andW ttB x) l ↔ ThereW l x := by
  unfold cnt ThereW
  rw [List.countP_pos_iff]
  constructor
  · rintro ⟨s, hs, h⟩; exact ⟨s, hs, by simpa [andW, ttB] using h⟩
  · rintro ⟨s, hs, h⟩; exact ⟨s, hs, by simpa [andW, ttB] using h⟩
/-- The least of those that are there and of which P is true; the greatest int, if there is none. -/
structure Least (P : Int → Bool) (T : Int → Prop) (x : Int) : Prop where
  le : x ≤ 9223372036854775807
  least : ∀ v, T v → P v = true → x ≤ v
  is : x = 9223372036854775807 ∨ (T x ∧ P x = true)
theorem Least.init (P : Int → Bool) {T : Int → Prop} (h : ∀ v, ¬ T v) : Least P T 9223372036854775807 := ⟨Int.le_refl _, fun v hv => (h v hv).elim, .inl rfl⟩
theorem Least.congr {P : Int → Bool} {T T' : Int → Prop} {x : Int} (h : Least P T x) (ht : ∀ v, T' v ↔ T v) : Least P T' x :=
  ⟨h.le, fun v hv => h.least v ((ht v).1 hv), h.is.imp id (fun ⟨a, b⟩ => ⟨(ht _).2 a, b⟩)⟩
theorem Least.no {P : Int → Bool} {T T' : Int → Prop} {x v0 : Int} (h : Least P T x) (ht : ∀ v, T' v ↔ T v ∨ v = v0) (hp : P v0 = false) : Least P T' x := by
  refine ⟨h.le, ?_, h.is.imp id (fun ⟨a, b⟩ => ⟨(ht _).2 (.inl a), b⟩)⟩
  intro v hv hpv
  rcases (ht v).1 hv with hv | rfl
  · exact h.least v hv hpv
  · rw [hp] at hpv; cases hpv
theorem Least.low {P : Int → Bool} {T T' : Int → Prop} {x v0 : Int} (h : Least P T x) (ht : ∀ v, T' v ↔ T v ∨ v = v0) (hp : P v0 = true) (hv : v0 < x) : Least P T' v0 := by
  refine ⟨by have := h.le; omega, ?_, .inr ⟨(ht _).2 (.inr rfl), hp⟩⟩
  intro v hv' hpv
  rcases (ht v).1 hv' with hv' | e
  · have := h.least v hv' hpv; omega
  · omega
theorem Least.high {P : Int → Bool} {T T' : Int → Prop} {x v0 : Int} (h : Least P T x) (ht : ∀ v, T' v ↔ T v ∨ v = v0) (hp : P v0 = true) (hv : ¬ v0 < x) : Least P T' x := by
  refine ⟨h.le, ?_, h.is.imp id (fun ⟨a, b⟩ => ⟨(ht _).2 (.inl a), b⟩)⟩
  intro v hv' hpv
  rcases (ht v).1 hv' with hv' | e
  · exact h.least v hv' hpv
  · omega
/-- Those that the range has met. -/
def MetW (D : DataW Unit) (left : Lit → Bool) (v : Int) : Prop := Maps.has D (.int .i64 v) = true ∧ left (.int .i64 v) = false
theorem met_step {D : DataW Unit} {left : Lit → Bool} {x : Int} (hx : Maps.has D (.int .i64 x) = true) (v : Int) : MetW D (fun z => left z && !z.sameKey (.int .i64 x)) v ↔ MetW D left v ∨ v = x := by
  unfold MetW
  by_cases e : v = x
  · subst e
    have : (Lit.int .i64 v).sameKey (.int .i64 v) = true := WideAt.sameKey_self trivial
    simp [this, hx]
  · have : (Lit.int .i64 v).sameKey (.int .i64 x) = false := sameKey_ne (fun h => e (by injection h))
    simp [this, e]
theorem met_start (D : DataW Unit) (v : Int) : ¬ MetW D (Maps.has D) v := fun h => by have := h.1; rw [h.2] at this; cases this
theorem met_end {D : DataW Unit} {left : Lit → Bool} (h : ∀ z, left z = false) (v : Int) : MetW D left v ↔ Maps.has D (.int .i64 v) = true := ⟨fun h => h.1, fun hh => ⟨hh, h _⟩⟩
theorem fns_one (w : World) (f : Fnv) (t : TypeId) (hf : f.In w) : Fns (w.alloc (.cells #[f.val] t)) (some ⟨w.heap.size, 0, none⟩) [f] := fun i hi => by
  match i, hi with
  | 0, _ => exact ⟨w.heap.size, 0, rfl, by rw [Nat.zero_add, cell_new]; rfl, hf.later (below_alloc w _)⟩
theorem look_run {w : World} {b n : Nat} {D : DataW Unit} {v c : Int} (h : w.ownsMap Try.prog 3 (plainElem Try.prog 3) b n D) (hv : I64 v) (hat : D.atKey (.int .i64 v) (.lit (.int .i64 0)) = .lit (.int .i64 c)) :
    (Instr.lookup 58 (.map (some b)) (.int .i64 v) false).run Try.prog w = .ok (.int .i64 c) w := by
  obtain ⟨c', hrun, hat', _⟩ := h.lookup_int lawI Try.underlying58 Try.underlying3 (zeroI _) (keyOf_int_mk Try.underlying3 (wf_of hv))
  rw [hat] at hat'
  have : c = c' := by simpa using hat'
  subst this
  exact hrun
def BndPost (fai : Int) (l : List Stp) (w : World) (e : Ending) (w' : World) : Prop :=
  ∃ x y, e = .returned (.tuple #[.int .i64 x, .int .i64 y]) ∧ Least (shutC fai l) (ThereW l) x ∧ Least (haltC fai l) (ThereW l) y ∧ Below w.heap.size w w'
set_option maxHeartbeats 4000000 in
set_option maxRecDepth 20000 in
theorem bounds_any (C : Array Value) (fai par : Int) (hJ : JA C fai par) (A : Option Addr) (l : List Stp) (c : Nat) (w : World) (hS : Stps w A l) (hm : l.length ≤ 2199023255552) (hw : WvOk l) :
    Calls Try.prog 19 #[.agg C, .slice A l.length c] w (BndPost fai l w) := by
  have HPw := Lib.hid (fun (V : World) (B : Option Addr) (fs : List Fnv) (d : Nat) (hV : Below w.heap.size w V) (hF : Fns V B fs) (hfm : fs.length ≤ maxLen) => perWave_any A l c B fs d V (hS.later hV) hm hw hF hfm)
  have HTm := Lib.hid (fun f n hf hn V => tooMany_any C fai par hJ f n hf hn V)
  have hszJ : (Try.prog.info? 27).map (·.size) = some C.size := by rw [hJ.size]; exact szJb
  have HLe : Hid (∀ p x, cnt (andW p x) l ≤ 2199023255552) := Lib.hid (fun p x => Nat.le_trans (cnt_le _ _) hm)
  have HSC : Hid (∀ x, shutC fai l x = (!(cnt (andW leftB x) l == 0) || badN fai (cnt (andW failB x) l) (cnt (andW ttB x) l))) := Lib.hid (fun x => rfl)
  have HHC : Hid (∀ x, haltC fai l x = ((cnt (andW leftB x) l == 0) && badN fai (cnt (andW failB x) l) (cnt (andW ttB x) l))) := Lib.hid (fun x => rfl)
  have HTi := Lib.hid (there_iff l)
  have hszL : (Try.prog.info? 27).map (·.size) = some C.toList.length := by rw [Array.length_toList]; exact hszJ
  have huJ := Try.underlying27
  have tk1 : True := trivial
  have tk2 : True := trivial
  clear hJ hS hm hw
  go_enter Try.func19, Try.ntmps19
  go_wp2_with (first
    | (go_at_call 31; clear tk1; refine (HPw.out _ none [] 0 (below_alloc w _) (Fns.nil _ _) (Nat.zero_le _)).mono ?_; rintro e w1 ⟨b1, D1, rfl, hown1, hpw1, hb1, hbl1⟩; have HB1 := Lib.hid ((below_alloc w (.cells C 27)).trans (hbl1.mono (by simp))); have hrow1 := (hbl1.block w.heap.size (by simp)).trans (heap_new w (.cells C 27)))
    | (go_at_call 31; clear tk2; refine (HPw.out _ (some ⟨w1.heap.size, 0, none⟩) [.left] 1 (HB1.out.alloc HB1.out.size _) (fns_one w1 .left _ trivial) (by unfold maxLen; decide)).mono ?_; rintro e w2 ⟨b2, D2, rfl, hown2, hpw2, hb2, hbl2⟩; have HB2 := Lib.hid ((HB1.out.alloc HB1.out.size (.cells #[Fnv.val .left] 54)).trans (hbl2.mono (Nat.le_trans HB1.out.size (by simp)))); have hrow2 := (hbl2.block w.heap.size (by have := heap_lt hrow1; simp; omega)).trans (heap_old _ (heap_lt hrow1) hrow1); have hown1 := (hown1.alloc _).kept (grown_below hbl2) (by simp))
    | (go_at_call 31; refine (HPw.out _ (some ⟨w2.heap.size, 0, none⟩) [.fail] 1 (HB2.out.alloc HB2.out.size _) (fns_one w2 .fail _ trivial) (by unfold maxLen; decide)).mono ?_; rintro e w3 ⟨b3, D3, rfl, hown3, hpw3, hb3, hbl3⟩; have HB3 := Lib.hid ((HB2.out.alloc HB2.out.size (.cells #[Fnv.val .fail] 54)).trans (hbl3.mono (Nat.le_trans HB2.out.size (by simp)))); have hrow3 := (hbl3.block w.heap.size (by have := heap_lt hrow2; simp; omega)).trans (heap_old _ (heap_lt hrow2) hrow2); have hown1 := (hown1.alloc _).kept (grown_below hbl3) (by simp); have hown2 := (hown2.alloc _).kept (grown_below hbl3) (by simp))
    | (at_range; refine wpList_range_own _ rfl _ 58 rfl 3 3 lawI Try.underlying58 _ b1 l.length _ rfl hown1 ?_; intro w4 hrg4 hg4 hs4)
    | go_in)
  go_frame
  have hlt2 := hown2.lt
  have hlt3 := hown3.lt
  have hltj := heap_lt hrow3
  obtain ⟨r, hr⟩ : ∃ r, r = w3.heap.size := ⟨_, rfl⟩
  have HPW1 := Lib.hid hpw1
  have HPW2 := Lib.hid hpw2
  have HPW3 := Lib.hid hpw3
  have HB4 := Lib.hid (HB3.out.grown hg4 HB3.out.size (fun j hj => by cases hj))
  have hown2 := hown2.kept hg4 (by simp)
  have hown3 := hown3.kept hg4 (by simp)
  have hrow4 := (hg4.block w.heap.size hltj (by simp)).trans hrow3
  rw [← hr] at hrg4 hlt2 hlt3 hltj ⊢
  have hr2 : some b2 ≠ some r := fun e => by injection e with e; omega
  have hr3 : some b3 ≠ some r := fun e => by injection e with e; omega
  have hrj : some w.heap.size ≠ some r := fun e => by injection e with e; omega
  clear hr hpw1 hpw2 hpw3 hbl1 hb1 hb2 hb3 hbl2 hbl3 hown1 hrow1 hrow2 hrow3 hg4 hs4 HB1 HB2 HB3
  go_loopw [4, 5] (fun sv hv wr => ∃ (x y : Int) (left : Lit → Bool) (cn : Nat), sv = .int .i64 x ∧ hv = .int .i64 y ∧ wr.ranges Try.prog 3 (plainElem Try.prog 3) b1 r l.length D1 left cn ∧ wr.ownsMap Try.prog 3 (plainElem Try.prog 3) b2 l.length D2 ∧ wr.ownsMap Try.prog 3 (plainElem Try.prog 3) b3 l.length D3 ∧ wr.heap[w.heap.size]? = some (.cells C 27 (0, 0)) ∧ Hid (Least (shutC fai l) (MetW D1 left) x) ∧ Hid (Least (haltC fai l) (MetW D1 left) y) ∧ Hid (Below w.heap.size w wr)) (fun _ _ wr => wr.rangeLeft b1 r)
  case atStart => exact ⟨_, _, _, _, rfl, rfl, hrg4, hown2, hown3, hrow4, Lib.hid (Least.init _ (met_start D1)), Lib.hid (Least.init _ (met_start D1)), HB4⟩
  case round =>
    obtain ⟨x, y, left, cn, rfl, rfl, hrg, hm2, hm3, hrow, HLx, HLy, HB⟩ := hrel
    go_wp2_with (first
      | (at_next; refine wpList_next_ranges_ii _ rfl _ rfl 3 3 .i64 .i64 lawI Try.underlying3 Try.underlying3 b1 r l.length _ _ _ rfl hrg ?_ ?_)
      | go_in)
    · intro _ hl0
      have HX : Hid (Least (shutC fai l) (ThereW l) x) := Lib.hid (HLx.out.congr (fun v => by rw [← HTi.out v, met_end hl0 v, HPW1.out.has v, allF_nil]; simp))
      have HY : Hid (Least (haltC fai l) (ThereW l) y) := Lib.hid (HLy.out.congr (fun v => by rw [← HTi.out v, met_end hl0 v, HPW1.out.has v, allF_nil]; simp))
      go_wp2
      go_ret2
      exact ⟨x, y, rfl, HX.out, HY.out, HB.out⟩
    · intro v c1 w5 cnt1 hwx hwc hlx hat hrg1 hlt1 hg5 hs5 hen
      have hm2 := hm2.kept hg5 hr2
      have hm3 := hm3.kept hg5 hr3
      have hjw5 : w.heap.size < w5.heap.size := by rw [hs5]; exact heap_lt hrow
      have hrow5 := (hg5.block w.heap.size (heap_lt hrow) hrj).trans hrow
      have HB5 := Lib.hid (HB.out.grown hg5 HB.out.size (fun j hj => by cases hj; omega))
      have HMs := Lib.hid (met_step (left := left) (has_true_of_atKey hat))
      obtain ⟨na, hna⟩ : ∃ na, na = cnt (andW ttB v) l := ⟨_, rfl⟩
      obtain ⟨nl, hnl⟩ : ∃ nl, nl = cnt (andW leftB v) l := ⟨_, rfl⟩
      obtain ⟨nf, hnf⟩ : ∃ nf, nf = cnt (andW failB v) l := ⟨_, rfl⟩
      obtain rfl : c1 = (na : Int) := by
        have h1 := hat (.lit (.int .i64 0))
        have h2 := HPW1.out.at_ v
        rw [allF_nil, ← hna, h1] at h2
        simpa using h2
      have hvv : I64 v := bounds_i64 hwx
      have HL2 : Hid (∀ V, w5.grownBy V none → (Instr.lookup 58 (.map (some b2)) (.int .i64 v) false).run Try.prog V = .ok (.int .i64 (nl : Int)) V) := Lib.hid (fun V hV => look_run (hm2.kept hV (by simp)) hvv (by
        have h2 := HPW2.out.at_ v
        rw [allF_one] at h2
        rw [hnl]; exact h2))
      have HL3 : Hid (∀ V, w5.grownBy V none → (Instr.lookup 58 (.map (some b3)) (.int .i64 v) false).run Try.prog V = .ok (.int .i64 (nf : Int)) V) := Lib.hid (fun V hV => look_run (hm3.kept hV (by simp)) hvv (by
        have h2 := HPW3.out.at_ v
        rw [allF_one] at h2
        rw [hnf]; exact h2))
      have HRg : Hid (∀ V, w5.grownBy V none → V.rangeAt w.heap.size 0 C.toList) := Lib.hid (fun V hV j u hu => by
        rw [Nat.zero_add, cell_of_row V w.heap.size j C _ _ ((hV.block w.heap.size hjw5 (by simp)).trans hrow5)]
        simpa using hu)
      have HTc := Lib.hid (HTm.out nf na (by rw [hnf]; exact HLe.out _ _) (by rw [hna]; exact HLe.out _ _))
      have HE1 : Hid (∀ b : Bool, ((nl : Int) == 0) = b → (cnt (andW leftB v) l == 0) = b) := Lib.hid (fun b h => by rw [← h, ← hnl]; cases nl <;> simp <;> omega)
      have HE2 : Hid (badN fai (cnt (andW failB v) l) (cnt (andW ttB v) l) = badN fai nf na) := Lib.hid (by rw [hnf, hna])
      have HG5 : Hid (w5.grownBy w5.drew none) := Lib.hid (grown_below (Below.refl _ _).drew)
      clear hat hwx hwc hlx hna hnl hnf hg5 hs5
      cases hq1 : ((nl : Int) == 0)
      · have HqH : Hid (haltC fai l v = false) := Lib.hid (by rw [HHC.out, HE1.out _ hq1]; rfl)
        have HqS : Hid (shutC fai l v = true) := Lib.hid (by rw [HSC.out, HE1.out _ hq1]; rfl)
        generalize badN fai nf na = q2 at *
        by_cases hvx : v < x
        · go_wp2_with fail
          refine wp_region_held_drew (S := (fun V => (Instr.lookup 58 (.map (some b2)) (.int .i64 v) false).run Try.prog V = .ok (.int .i64 (nl : Int)) V ∧ (Instr.lookup 58 (.map (some b3)) (.int .i64 v) false).run Try.prog V = .ok (.int .i64 (nf : Int)) V ∧ V.rangeAt w.heap.size 0 C.toList)) (by kernel_rfl) (And.intro (HL2.out _ HG5.out) (And.intro (HL3.out _ HG5.out) (HRg.out _ HG5.out))) (fun hHeld => ?_)
          refine wpAnyH_take (i := 0) (v := ?vv1) rfl (by kernel_rfl) (by kernel_rfl) (by kernel_rfl) (fun _ _ _ h => h) (Or.inl ⟨by rfl, ?hy1⟩) hHeld ?rr1
          case hy1 => (intro w' hSw; obtain ⟨s0, s1, s2⟩ := hSw; go_simp; try with_reducible rfl)
          try simp only [Act.put, List.setIfInBounds_toArray, List.set_cons_zero, List.set_cons_succ, List.getElem_toArray, List.getElem_cons_succ, List.getElem_cons_zero]
          refine wpAnyH_take (i := 1) (v := ?vv2) rfl (by kernel_rfl) (by kernel_rfl) (by kernel_rfl) (fun _ _ _ h => h) (Or.inl ⟨by rfl, ?hy2⟩) hHeld ?rr2
          case hy2 => (intro w' hSw; obtain ⟨s0, s1, s2⟩ := hSw; go_simp; try with_reducible rfl)
          try simp only [Act.put, List.setIfInBounds_toArray, List.set_cons_zero, List.set_cons_succ, List.getElem_toArray, List.getElem_cons_succ, List.getElem_cons_zero]
          refine wpAnyH_take (i := 2) (v := ?vv3) rfl (by kernel_rfl) (by kernel_rfl) (by kernel_rfl) (fun _ _ _ h => h) (Or.inl ⟨by rfl, ?hy3⟩) hHeld ?rr3
          case hy3 => (intro w' hSw; obtain ⟨s0, s1, s2⟩ := hSw; go_simp; try with_reducible rfl)
          try simp only [Act.put, List.setIfInBounds_toArray, List.set_cons_zero, List.set_cons_succ, List.getElem_toArray, List.getElem_cons_succ, List.getElem_cons_zero]
          refine wpAnyH_take (i := 3) (v := ?vv4) rfl (by kernel_rfl) (by kernel_rfl) (by kernel_rfl) (fun _ _ _ h => h) (Or.inl ⟨by rfl, ?hy4⟩) hHeld ?rr4
          case hy4 => (intro w' hSw; obtain ⟨s0, s1, s2⟩ := hSw; go_simp; try with_reducible rfl)
          try simp only [Act.put, List.setIfInBounds_toArray, List.set_cons_zero, List.set_cons_succ, List.getElem_toArray, List.getElem_cons_succ, List.getElem_cons_zero]
          refine wpAnyH_take (i := 4) (v := .agg C) rfl (by kernel_rfl) (by kernel_rfl) (by kernel_rfl) (fun _ _ _ h => h) (yieldsIf_load_mid (by rfl) 27 (.tmp 2) rfl w.heap.size 0 rfl C.toList _ (fun V hV => hV.2.2) huJ rfl hszL) hHeld ?rr5
          try simp only [Act.put, List.setIfInBounds_toArray, List.set_cons_zero, List.set_cons_succ, List.getElem_toArray, List.getElem_cons_succ, List.getElem_cons_zero]
          refine wpAnyH_take (i := 5) (v := ?vv6) rfl (by kernel_rfl) (by kernel_rfl) (by kernel_rfl) (fun _ _ _ h => h) (Or.inl ⟨by rfl, ?hy6⟩) hHeld ?rr6
          case hy6 => (intro w' hSw; obtain ⟨s0, s1, s2⟩ := hSw; go_simp; try with_reducible rfl)
          try simp only [Act.put, List.setIfInBounds_toArray, List.set_cons_zero, List.set_cons_succ, List.getElem_toArray, List.getElem_cons_succ, List.getElem_cons_zero]
          refine wpAnyH_take (i := 6) (v := ?vv7) rfl (by kernel_rfl) (by kernel_rfl) (by kernel_rfl) (fun _ _ _ h => h) (Or.inl ⟨by rfl, ?hy7⟩) hHeld ?rr7
          case hy7 => (intro w' hSw; obtain ⟨s0, s1, s2⟩ := hSw; go_simp; try with_reducible rfl)
          try simp only [Act.put, List.setIfInBounds_toArray, List.set_cons_zero, List.set_cons_succ, List.getElem_toArray, List.getElem_cons_succ, List.getElem_cons_zero]
          refine wpAnyH_take (i := 7) (v := ?vv8) rfl (by kernel_rfl) (by kernel_rfl) (by kernel_rfl) (fun _ _ _ h => h) (Or.inl ⟨by rfl, ?hy8⟩) hHeld ?rr8
          case hy8 => (intro w' hSw; obtain ⟨s0, s1, s2⟩ := hSw; go_simp; try with_reducible rfl)
          try simp only [Act.put, List.setIfInBounds_toArray, List.set_cons_zero, List.set_cons_succ, List.getElem_toArray, List.getElem_cons_succ, List.getElem_cons_zero]
          refine wpAnyH_take (i := 8) (v := ?vv9) rfl (by kernel_rfl) (by kernel_rfl) (by kernel_rfl) (fun _ _ _ h => h) (Or.inl ⟨by rfl, ?hy9⟩) hHeld ?rr9
          case hy9 => (intro w' hSw; obtain ⟨s0, s1, s2⟩ := hSw; go_simp; try with_reducible rfl)
          try simp only [Act.put, List.setIfInBounds_toArray, List.set_cons_zero, List.set_cons_succ, List.getElem_toArray, List.getElem_cons_succ, List.getElem_cons_zero]
          refine wpAnyH_ready (rs := [9]) (by kernel_rfl) (by simp) ?_
          refine AllReadyH.cons rfl (fun K hK => ?_) AllReadyH.nil
          try rw [if_pos (by rfl)]
          go_simp
          go_at_call 28
          refine Calls.mono (by with_reducible exact HTc.out _) ?_
          rintro e w6 ⟨rfl, hb6⟩
          have HB6 := Lib.hid ((HB5.out.drew).trans (hb6.mono HB5.out.drew.size))
          have HG6 := Lib.hid (grown_below (show Below w5.heap.size w5 w6 from (Below.refl _ _).drew.trans hb6))
          have hrow6 := (hb6.block w.heap.size hjw5).trans hrow5
          clear hb6
          go_wp2_with fail
          refine hK.out _ _ (And.intro (HL2.out _ HG6.out) (And.intro (HL3.out _ HG6.out) (HRg.out _ HG6.out))) (fun hHeld2 => ?_)
          clear hK K hHeld
          have hHeld := hHeld2
          clear hHeld2
          try simp only [Act.put, List.setIfInBounds_toArray, List.set_cons_zero, List.set_cons_succ, List.getElem_toArray, List.getElem_cons_succ, List.getElem_cons_zero]
          refine wpAnyH_take (i := 10) (v := ?vv10) rfl (by kernel_rfl) (by kernel_rfl) (by kernel_rfl) (fun _ _ _ h => h) (Or.inl ⟨by rfl, ?hy10⟩) hHeld ?rr10
          case hy10 => (intro w' hSw; obtain ⟨s0, s1, s2⟩ := hSw; go_simp; try with_reducible rfl)
          try simp only [Act.put, List.setIfInBounds_toArray, List.set_cons_zero, List.set_cons_succ, List.getElem_toArray, List.getElem_cons_succ, List.getElem_cons_zero]
          refine wpAnyH_take (i := 11) (v := ?vv11) rfl (by kernel_rfl) (by kernel_rfl) (by kernel_rfl) (fun _ _ _ h => h) (Or.inl ⟨by rfl, ?hy11⟩) hHeld ?rr11
          case hy11 => (intro w' hSw; obtain ⟨s0, s1, s2⟩ := hSw; go_simp; try with_reducible rfl)
          try simp only [Act.put, List.setIfInBounds_toArray, List.set_cons_zero, List.set_cons_succ, List.getElem_toArray, List.getElem_cons_succ, List.getElem_cons_zero]
          refine wpAnyH_done (by kernel_rfl) ?_ _
          clear hHeld
          go_wp2
          go_roundw
          case rel => exact ⟨v, y, _, cnt1, rfl, rfl, hrg1.kept HG6.out (by simp) (by simp), hm2.kept HG6.out (by simp), hm3.kept HG6.out (by simp), hrow6, Lib.hid (HLx.out.low HMs.out HqS.out hvx), Lib.hid (HLy.out.no HMs.out HqH.out), HB6⟩
          case measure => rw [(hrg1.kept HG6.out (by simp) (by simp)).left_eq, hrg.left_eq]; exact hlt1
        · go_wp2_with fail
          refine wp_region_held_drew (S := (fun V => (Instr.lookup 58 (.map (some b2)) (.int .i64 v) false).run Try.prog V = .ok (.int .i64 (nl : Int)) V ∧ (Instr.lookup 58 (.map (some b3)) (.int .i64 v) false).run Try.prog V = .ok (.int .i64 (nf : Int)) V ∧ V.rangeAt w.heap.size 0 C.toList)) (by kernel_rfl) (And.intro (HL2.out _ HG5.out) (And.intro (HL3.out _ HG5.out) (HRg.out _ HG5.out))) (fun hHeld => ?_)
          refine wpAnyH_take (i := 0) (v := ?vv12) rfl (by kernel_rfl) (by kernel_rfl) (by kernel_rfl) (fun _ _ _ h => h) (Or.inl ⟨by rfl, ?hy12⟩) hHeld ?rr12
          case hy12 => (intro w' hSw; obtain ⟨s0, s1, s2⟩ := hSw; go_simp; try with_reducible rfl)
          try simp only [Act.put, List.setIfInBounds_toArray, List.set_cons_zero, List.set_cons_succ, List.getElem_toArray, List.getElem_cons_succ, List.getElem_cons_zero]
          refine wpAnyH_take (i := 1) (v := ?vv13) rfl (by kernel_rfl) (by kernel_rfl) (by kernel_rfl) (fun _ _ _ h => h) (Or.inl ⟨by rfl, ?hy13⟩) hHeld ?rr13
          case hy13 => (intro w' hSw; obtain ⟨s0, s1, s2⟩ := hSw; go_simp; try with_reducible rfl)
          try simp only [Act.put, List.setIfInBounds_toArray, List.set_cons_zero, List.set_cons_succ, List.getElem_toArray, List.getElem_cons_succ, List.getElem_cons_zero]
          refine wpAnyH_take (i := 2) (v := ?vv14) rfl (by kernel_rfl) (by kernel_rfl) (by kernel_rfl) (fun _ _ _ h => h) (Or.inl ⟨by rfl, ?hy14⟩) hHeld ?rr14
          case hy14 => (intro w' hSw; obtain ⟨s0, s1, s2⟩ := hSw; go_simp; try with_reducible rfl)
          try simp only [Act.put, List.setIfInBounds_toArray, List.set_cons_zero, List.set_cons_succ, List.getElem_toArray, List.getElem_cons_succ, List.getElem_cons_zero]
          refine wpAnyH_take (i := 3) (v := ?vv15) rfl (by kernel_rfl) (by kernel_rfl) (by kernel_rfl) (fun _ _ _ h => h) (Or.inl ⟨by rfl, ?hy15⟩) hHeld ?rr15
          case hy15 => (intro w' hSw; obtain ⟨s0, s1, s2⟩ := hSw; go_simp; try with_reducible rfl)
          try simp only [Act.put, List.setIfInBounds_toArray, List.set_cons_zero, List.set_cons_succ, List.getElem_toArray, List.getElem_cons_succ, List.getElem_cons_zero]
          refine wpAnyH_take (i := 4) (v := .agg C) rfl (by kernel_rfl) (by kernel_rfl) (by kernel_rfl) (fun _ _ _ h => h) (yieldsIf_load_mid (by rfl) 27 (.tmp 2) rfl w.heap.size 0 rfl C.toList _ (fun V hV => hV.2.2) huJ rfl hszL) hHeld ?rr16
          try simp only [Act.put, List.setIfInBounds_toArray, List.set_cons_zero, List.set_cons_succ, List.getElem_toArray, List.getElem_cons_succ, List.getElem_cons_zero]
          refine wpAnyH_take (i := 5) (v := ?vv17) rfl (by kernel_rfl) (by kernel_rfl) (by kernel_rfl) (fun _ _ _ h => h) (Or.inl ⟨by rfl, ?hy17⟩) hHeld ?rr17
          case hy17 => (intro w' hSw; obtain ⟨s0, s1, s2⟩ := hSw; go_simp; try with_reducible rfl)
          try simp only [Act.put, List.setIfInBounds_toArray, List.set_cons_zero, List.set_cons_succ, List.getElem_toArray, List.getElem_cons_succ, List.getElem_cons_zero]
          refine wpAnyH_take (i := 6) (v := ?vv18) rfl (by kernel_rfl) (by kernel_rfl) (by kernel_rfl) (fun _ _ _ h => h) (Or.inl ⟨by rfl, ?hy18⟩) hHeld ?rr18
          case hy18 => (intro w' hSw; obtain ⟨s0, s1, s2⟩ := hSw; go_simp; try with_reducible rfl)
          try simp only [Act.put, List.setIfInBounds_toArray, List.set_cons_zero, List.set_cons_succ, List.getElem_toArray, List.getElem_cons_succ, List.getElem_cons_zero]
          refine wpAnyH_take (i := 7) (v := ?vv19) rfl (by kernel_rfl) (by kernel_rfl) (by kernel_rfl) (fun _ _ _ h => h) (Or.inl ⟨by rfl, ?hy19⟩) hHeld ?rr19
          case hy19 => (intro w' hSw; obtain ⟨s0, s1, s2⟩ := hSw; go_simp; try with_reducible rfl)
          try simp only [Act.put, List.setIfInBounds_toArray, List.set_cons_zero, List.set_cons_succ, List.getElem_toArray, List.getElem_cons_succ, List.getElem_cons_zero]
          refine wpAnyH_take (i := 8) (v := ?vv20) rfl (by kernel_rfl) (by kernel_rfl) (by kernel_rfl) (fun _ _ _ h => h) (Or.inl ⟨by rfl, ?hy20⟩) hHeld ?rr20
          case hy20 => (intro w' hSw; obtain ⟨s0, s1, s2⟩ := hSw; go_simp; try with_reducible rfl)
          try simp only [Act.put, List.setIfInBounds_toArray, List.set_cons_zero, List.set_cons_succ, List.getElem_toArray, List.getElem_cons_succ, List.getElem_cons_zero]
          refine wpAnyH_ready (rs := [9]) (by kernel_rfl) (by simp) ?_
          refine AllReadyH.cons rfl (fun K hK => ?_) AllReadyH.nil
          try rw [if_pos (by rfl)]
          go_simp
          go_at_call 28
          refine Calls.mono (by with_reducible exact HTc.out _) ?_
          rintro e w6 ⟨rfl, hb6⟩
          have HB6 := Lib.hid ((HB5.out.drew).trans (hb6.mono HB5.out.drew.size))
          have HG6 := Lib.hid (grown_below (show Below w5.heap.size w5 w6 from (Below.refl _ _).drew.trans hb6))
          have hrow6 := (hb6.block w.heap.size hjw5).trans hrow5
          clear hb6
          go_wp2_with fail
          refine hK.out _ _ (And.intro (HL2.out _ HG6.out) (And.intro (HL3.out _ HG6.out) (HRg.out _ HG6.out))) (fun hHeld2 => ?_)
          clear hK K hHeld
          have hHeld := hHeld2
          clear hHeld2
          try simp only [Act.put, List.setIfInBounds_toArray, List.set_cons_zero, List.set_cons_succ, List.getElem_toArray, List.getElem_cons_succ, List.getElem_cons_zero]
          refine wpAnyH_take (i := 10) (v := ?vv21) rfl (by kernel_rfl) (by kernel_rfl) (by kernel_rfl) (fun _ _ _ h => h) (Or.inl ⟨by rfl, ?hy21⟩) hHeld ?rr21
          case hy21 => (intro w' hSw; obtain ⟨s0, s1, s2⟩ := hSw; go_simp; try with_reducible rfl)
          try simp only [Act.put, List.setIfInBounds_toArray, List.set_cons_zero, List.set_cons_succ, List.getElem_toArray, List.getElem_cons_succ, List.getElem_cons_zero]
          refine wpAnyH_take (i := 11) (v := ?vv22) rfl (by kernel_rfl) (by kernel_rfl) (by kernel_rfl) (fun _ _ _ h => h) (Or.inl ⟨by rfl, ?hy22⟩) hHeld ?rr22
          case hy22 => (intro w' hSw; obtain ⟨s0, s1, s2⟩ := hSw; go_simp; try with_reducible rfl)
          try simp only [Act.put, List.setIfInBounds_toArray, List.set_cons_zero, List.set_cons_succ, List.getElem_toArray, List.getElem_cons_succ, List.getElem_cons_zero]
          refine wpAnyH_done (by kernel_rfl) ?_ _
          clear hHeld
          go_wp2
          go_roundw
          case rel => exact ⟨x, y, _, cnt1, rfl, rfl, hrg1.kept HG6.out (by simp) (by simp), hm2.kept HG6.out (by simp), hm3.kept HG6.out (by simp), hrow6, Lib.hid (HLx.out.high HMs.out HqS.out (by omega)), Lib.hid (HLy.out.no HMs.out HqH.out), HB6⟩
          case measure => rw [(hrg1.kept HG6.out (by simp) (by simp)).left_eq, hrg.left_eq]; exact hlt1
      · cases hq2 : badN fai nf na
        · have HqH : Hid (haltC fai l v = false) := Lib.hid (by rw [HHC.out, HE1.out _ hq1, HE2.out, hq2]; rfl)
          have HqS : Hid (shutC fai l v = false) := Lib.hid (by rw [HSC.out, HE1.out _ hq1, HE2.out, hq2]; rfl)
          rw [hq2] at HTc
          go_wp2_with fail
          refine wp_region_held_drew (S := (fun V => (Instr.lookup 58 (.map (some b2)) (.int .i64 v) false).run Try.prog V = .ok (.int .i64 (nl : Int)) V ∧ (Instr.lookup 58 (.map (some b3)) (.int .i64 v) false).run Try.prog V = .ok (.int .i64 (nf : Int)) V ∧ V.rangeAt w.heap.size 0 C.toList)) (by kernel_rfl) (And.intro (HL2.out _ HG5.out) (And.intro (HL3.out _ HG5.out) (HRg.out _ HG5.out))) (fun hHeld => ?_)
          refine wpAnyH_take (i := 0) (v := ?vv23) rfl (by kernel_rfl) (by kernel_rfl) (by kernel_rfl) (fun _ _ _ h => h) (Or.inl ⟨by rfl, ?hy23⟩) hHeld ?rr23
          case hy23 => (intro w' hSw; obtain ⟨s0, s1, s2⟩ := hSw; go_simp; try with_reducible rfl)
          try simp only [Act.put, List.setIfInBounds_toArray, List.set_cons_zero, List.set_cons_succ, List.getElem_toArray, List.getElem_cons_succ, List.getElem_cons_zero]
          refine wpAnyH_take (i := 1) (v := ?vv24) rfl (by kernel_rfl) (by kernel_rfl) (by kernel_rfl) (fun _ _ _ h => h) (Or.inl ⟨by rfl, ?hy24⟩) hHeld ?rr24
          case hy24 => (intro w' hSw; obtain ⟨s0, s1, s2⟩ := hSw; go_simp; try with_reducible rfl)
          try simp only [Act.put, List.setIfInBounds_toArray, List.set_cons_zero, List.set_cons_succ, List.getElem_toArray, List.getElem_cons_succ, List.getElem_cons_zero]
          refine wpAnyH_take (i := 2) (v := ?vv25) rfl (by kernel_rfl) (by kernel_rfl) (by kernel_rfl) (fun _ _ _ h => h) (Or.inl ⟨by rfl, ?hy25⟩) hHeld ?rr25
          case hy25 => (intro w' hSw; obtain ⟨s0, s1, s2⟩ := hSw; go_simp; try with_reducible rfl)
          try simp only [Act.put, List.setIfInBounds_toArray, List.set_cons_zero, List.set_cons_succ, List.getElem_toArray, List.getElem_cons_succ, List.getElem_cons_zero]
          refine wpAnyH_take (i := 3) (v := ?vv26) rfl (by kernel_rfl) (by kernel_rfl) (by kernel_rfl) (fun _ _ _ h => h) (Or.inl ⟨by rfl, ?hy26⟩) hHeld ?rr26
          case hy26 => (intro w' hSw; obtain ⟨s0, s1, s2⟩ := hSw; go_simp; try with_reducible rfl)
          try simp only [Act.put, List.setIfInBounds_toArray, List.set_cons_zero, List.set_cons_succ, List.getElem_toArray, List.getElem_cons_succ, List.getElem_cons_zero]
          refine wpAnyH_take (i := 4) (v := .agg C) rfl (by kernel_rfl) (by kernel_rfl) (by kernel_rfl) (fun _ _ _ h => h) (yieldsIf_load_mid (by rfl) 27 (.tmp 2) rfl w.heap.size 0 rfl C.toList _ (fun V hV => hV.2.2) huJ rfl hszL) hHeld ?rr27
          try simp only [Act.put, List.setIfInBounds_toArray, List.set_cons_zero, List.set_cons_succ, List.getElem_toArray, List.getElem_cons_succ, List.getElem_cons_zero]
          refine wpAnyH_take (i := 5) (v := ?vv28) rfl (by kernel_rfl) (by kernel_rfl) (by kernel_rfl) (fun _ _ _ h => h) (Or.inl ⟨by rfl, ?hy28⟩) hHeld ?rr28
          case hy28 => (intro w' hSw; obtain ⟨s0, s1, s2⟩ := hSw; go_simp; try with_reducible rfl)
          try simp only [Act.put, List.setIfInBounds_toArray, List.set_cons_zero, List.set_cons_succ, List.getElem_toArray, List.getElem_cons_succ, List.getElem_cons_zero]
          refine wpAnyH_take (i := 6) (v := ?vv29) rfl (by kernel_rfl) (by kernel_rfl) (by kernel_rfl) (fun _ _ _ h => h) (Or.inl ⟨by rfl, ?hy29⟩) hHeld ?rr29
          case hy29 => (intro w' hSw; obtain ⟨s0, s1, s2⟩ := hSw; go_simp; try with_reducible rfl)
          try simp only [Act.put, List.setIfInBounds_toArray, List.set_cons_zero, List.set_cons_succ, List.getElem_toArray, List.getElem_cons_succ, List.getElem_cons_zero]
          refine wpAnyH_take (i := 7) (v := ?vv30) rfl (by kernel_rfl) (by kernel_rfl) (by kernel_rfl) (fun _ _ _ h => h) (Or.inl ⟨by rfl, ?hy30⟩) hHeld ?rr30
          case hy30 => (intro w' hSw; obtain ⟨s0, s1, s2⟩ := hSw; go_simp; try with_reducible rfl)
          try simp only [Act.put, List.setIfInBounds_toArray, List.set_cons_zero, List.set_cons_succ, List.getElem_toArray, List.getElem_cons_succ, List.getElem_cons_zero]
          refine wpAnyH_take (i := 8) (v := ?vv31) rfl (by kernel_rfl) (by kernel_rfl) (by kernel_rfl) (fun _ _ _ h => h) (Or.inl ⟨by rfl, ?hy31⟩) hHeld ?rr31
          case hy31 => (intro w' hSw; obtain ⟨s0, s1, s2⟩ := hSw; go_simp; try with_reducible rfl)
          try simp only [Act.put, List.setIfInBounds_toArray, List.set_cons_zero, List.set_cons_succ, List.getElem_toArray, List.getElem_cons_succ, List.getElem_cons_zero]
          refine wpAnyH_ready (rs := [9]) (by kernel_rfl) (by simp) ?_
          refine AllReadyH.cons rfl (fun K hK => ?_) AllReadyH.nil
          try rw [if_pos (by rfl)]
          go_simp
          go_at_call 28
          refine Calls.mono (by with_reducible exact HTc.out _) ?_
          rintro e w6 ⟨rfl, hb6⟩
          have HB6 := Lib.hid ((HB5.out.drew).trans (hb6.mono HB5.out.drew.size))
          have HG6 := Lib.hid (grown_below (show Below w5.heap.size w5 w6 from (Below.refl _ _).drew.trans hb6))
          have hrow6 := (hb6.block w.heap.size hjw5).trans hrow5
          clear hb6
          go_wp2_with fail
          refine hK.out _ _ (And.intro (HL2.out _ HG6.out) (And.intro (HL3.out _ HG6.out) (HRg.out _ HG6.out))) (fun hHeld2 => ?_)
          clear hK K hHeld
          have hHeld := hHeld2
          clear hHeld2
          try simp only [Act.put, List.setIfInBounds_toArray, List.set_cons_zero, List.set_cons_succ, List.getElem_toArray, List.getElem_cons_succ, List.getElem_cons_zero]
          refine wpAnyH_take (i := 10) (v := ?vv32) rfl (by kernel_rfl) (by kernel_rfl) (by kernel_rfl) (fun _ _ _ h => h) (Or.inl ⟨by rfl, ?hy32⟩) hHeld ?rr32
          case hy32 => (intro w' hSw; obtain ⟨s0, s1, s2⟩ := hSw; go_simp; try with_reducible rfl)
          try simp only [Act.put, List.setIfInBounds_toArray, List.set_cons_zero, List.set_cons_succ, List.getElem_toArray, List.getElem_cons_succ, List.getElem_cons_zero]
          refine wpAnyH_take (i := 11) (v := ?vv33) rfl (by kernel_rfl) (by kernel_rfl) (by kernel_rfl) (fun _ _ _ h => h) (Or.inl ⟨by rfl, ?hy33⟩) hHeld ?rr33
          case hy33 => (intro w' hSw; obtain ⟨s0, s1, s2⟩ := hSw; go_simp; try with_reducible rfl)
          try simp only [Act.put, List.setIfInBounds_toArray, List.set_cons_zero, List.set_cons_succ, List.getElem_toArray, List.getElem_cons_succ, List.getElem_cons_zero]
          refine wpAnyH_done (by kernel_rfl) ?_ _
          clear hHeld
          go_wp2
          go_roundw
          case rel => exact ⟨x, y, _, cnt1, rfl, rfl, hrg1.kept HG6.out (by simp) (by simp), hm2.kept HG6.out (by simp), hm3.kept HG6.out (by simp), hrow6, Lib.hid (HLx.out.no HMs.out HqS.out), Lib.hid (HLy.out.no HMs.out HqH.out), HB6⟩
          case measure => rw [(hrg1.kept HG6.out (by simp) (by simp)).left_eq, hrg.left_eq]; exact hlt1
        · have HqH : Hid (haltC fai l v = true) := Lib.hid (by rw [HHC.out, HE1.out _ hq1, HE2.out, hq2]; rfl)
          have HqS : Hid (shutC fai l v = true) := Lib.hid (by rw [HSC.out, HE1.out _ hq1, HE2.out, hq2]; rfl)
          rw [hq2] at HTc
          by_cases hvx : v < x
          · by_cases hvy : v < y
            · go_wp2_with fail
              refine wp_region_held_drew (S := (fun V => (Instr.lookup 58 (.map (some b2)) (.int .i64 v) false).run Try.prog V = .ok (.int .i64 (nl : Int)) V ∧ (Instr.lookup 58 (.map (some b3)) (.int .i64 v) false).run Try.prog V = .ok (.int .i64 (nf : Int)) V ∧ V.rangeAt w.heap.size 0 C.toList)) (by kernel_rfl) (And.intro (HL2.out _ HG5.out) (And.intro (HL3.out _ HG5.out) (HRg.out _ HG5.out))) (fun hHeld => ?_)
              refine wpAnyH_take (i := 0) (v := ?vv34) rfl (by kernel_rfl) (by kernel_rfl) (by kernel_rfl) (fun _ _ _ h => h) (Or.inl ⟨by rfl, ?hy34⟩) hHeld ?rr34
              case hy34 => (intro w' hSw; obtain ⟨s0, s1, s2⟩ := hSw; go_simp; try with_reducible rfl)
              try simp only [Act.put, List.setIfInBounds_toArray, List.set_cons_zero, List.set_cons_succ, List.getElem_toArray, List.getElem_cons_succ, List.getElem_cons_zero]
              refine wpAnyH_take (i := 1) (v := ?vv35) rfl (by kernel_rfl) (by kernel_rfl) (by kernel_rfl) (fun _ _ _ h => h) (Or.inl ⟨by rfl, ?hy35⟩) hHeld ?rr35
              case hy35 => (intro w' hSw; obtain ⟨s0, s1, s2⟩ := hSw; go_simp; try with_reducible rfl)
              try simp only [Act.put, List.setIfInBounds_toArray, List.set_cons_zero, List.set_cons_succ, List.getElem_toArray, List.getElem_cons_succ, List.getElem_cons_zero]
              refine wpAnyH_take (i := 2) (v := ?vv36) rfl (by kernel_rfl) (by kernel_rfl) (by kernel_rfl) (fun _ _ _ h => h) (Or.inl ⟨by rfl, ?hy36⟩) hHeld ?rr36
              case hy36 => (intro w' hSw; obtain ⟨s0, s1, s2⟩ := hSw; go_simp; try with_reducible rfl)
              try simp only [Act.put, List.setIfInBounds_toArray, List.set_cons_zero, List.set_cons_succ, List.getElem_toArray, List.getElem_cons_succ, List.getElem_cons_zero]
              refine wpAnyH_take (i := 3) (v := ?vv37) rfl (by kernel_rfl) (by kernel_rfl) (by kernel_rfl) (fun _ _ _ h => h) (Or.inl ⟨by rfl, ?hy37⟩) hHeld ?rr37
              case hy37 => (intro w' hSw; obtain ⟨s0, s1, s2⟩ := hSw; go_simp; try with_reducible rfl)
              try simp only [Act.put, List.setIfInBounds_toArray, List.set_cons_zero, List.set_cons_succ, List.getElem_toArray, List.getElem_cons_succ, List.getElem_cons_zero]
              refine wpAnyH_take (i := 4) (v := .agg C) rfl (by kernel_rfl) (by kernel_rfl) (by kernel_rfl) (fun _ _ _ h => h) (yieldsIf_load_mid (by rfl) 27 (.tmp 2) rfl w.heap.size 0 rfl C.toList _ (fun V hV => hV.2.2) huJ rfl hszL) hHeld ?rr38
              try simp only [Act.put, List.setIfInBounds_toArray, List.set_cons_zero, List.set_cons_succ, List.getElem_toArray, List.getElem_cons_succ, List.getElem_cons_zero]
              refine wpAnyH_take (i := 5) (v := ?vv39) rfl (by kernel_rfl) (by kernel_rfl) (by kernel_rfl) (fun _ _ _ h => h) (Or.inl ⟨by rfl, ?hy39⟩) hHeld ?rr39
              case hy39 => (intro w' hSw; obtain ⟨s0, s1, s2⟩ := hSw; go_simp; try with_reducible rfl)
              try simp only [Act.put, List.setIfInBounds_toArray, List.set_cons_zero, List.set_cons_succ, List.getElem_toArray, List.getElem_cons_succ, List.getElem_cons_zero]
              refine wpAnyH_take (i := 6) (v := ?vv40) rfl (by kernel_rfl) (by kernel_rfl) (by kernel_rfl) (fun _ _ _ h => h) (Or.inl ⟨by rfl, ?hy40⟩) hHeld ?rr40
              case hy40 => (intro w' hSw; obtain ⟨s0, s1, s2⟩ := hSw; go_simp; try with_reducible rfl)
              try simp only [Act.put, List.setIfInBounds_toArray, List.set_cons_zero, List.set_cons_succ, List.getElem_toArray, List.getElem_cons_succ, List.getElem_cons_zero]
              refine wpAnyH_take (i := 7) (v := ?vv41) rfl (by kernel_rfl) (by kernel_rfl) (by kernel_rfl) (fun _ _ _ h => h) (Or.inl ⟨by rfl, ?hy41⟩) hHeld ?rr41
              case hy41 => (intro w' hSw; obtain ⟨s0, s1, s2⟩ := hSw; go_simp; try with_reducible rfl)
              try simp only [Act.put, List.setIfInBounds_toArray, List.set_cons_zero, List.set_cons_succ, List.getElem_toArray, List.getElem_cons_succ, List.getElem_cons_zero]
              refine wpAnyH_take (i := 8) (v := ?vv42) rfl (by kernel_rfl) (by kernel_rfl) (by kernel_rfl) (fun _ _ _ h => h) (Or.inl ⟨by rfl, ?hy42⟩) hHeld ?rr42
              case hy42 => (intro w' hSw; obtain ⟨s0, s1, s2⟩ := hSw; go_simp; try with_reducible rfl)
              try simp only [Act.put, List.setIfInBounds_toArray, List.set_cons_zero, List.set_cons_succ, List.getElem_toArray, List.getElem_cons_succ, List.getElem_cons_zero]
              refine wpAnyH_ready (rs := [9]) (by kernel_rfl) (by simp) ?_
              refine AllReadyH.cons rfl (fun K hK => ?_) AllReadyH.nil
              try rw [if_pos (by rfl)]
              go_simp
              go_at_call 28
              refine Calls.mono (by with_reducible exact HTc.out _) ?_
              rintro e w6 ⟨rfl, hb6⟩
              have HB6 := Lib.hid ((HB5.out.drew).trans (hb6.mono HB5.out.drew.size))
              have HG6 := Lib.hid (grown_below (show Below w5.heap.size w5 w6 from (Below.refl _ _).drew.trans hb6))
              have hrow6 := (hb6.block w.heap.size hjw5).trans hrow5
              clear hb6
              go_wp2_with fail
              refine hK.out _ _ (And.intro (HL2.out _ HG6.out) (And.intro (HL3.out _ HG6.out) (HRg.out _ HG6.out))) (fun hHeld2 => ?_)
              clear hK K hHeld
              have hHeld := hHeld2
              clear hHeld2
              try simp only [Act.put, List.setIfInBounds_toArray, List.set_cons_zero, List.set_cons_succ, List.getElem_toArray, List.getElem_cons_succ, List.getElem_cons_zero]
              refine wpAnyH_take (i := 10) (v := ?vv43) rfl (by kernel_rfl) (by kernel_rfl) (by kernel_rfl) (fun _ _ _ h => h) (Or.inl ⟨by rfl, ?hy43⟩) hHeld ?rr43
              case hy43 => (intro w' hSw; obtain ⟨s0, s1, s2⟩ := hSw; go_simp; try with_reducible rfl)
              try simp only [Act.put, List.setIfInBounds_toArray, List.set_cons_zero, List.set_cons_succ, List.getElem_toArray, List.getElem_cons_succ, List.getElem_cons_zero]
              refine wpAnyH_take (i := 11) (v := ?vv44) rfl (by kernel_rfl) (by kernel_rfl) (by kernel_rfl) (fun _ _ _ h => h) (Or.inl ⟨by rfl, ?hy44⟩) hHeld ?rr44
              case hy44 => (intro w' hSw; obtain ⟨s0, s1, s2⟩ := hSw; go_simp; try with_reducible rfl)
              try simp only [Act.put, List.setIfInBounds_toArray, List.set_cons_zero, List.set_cons_succ, List.getElem_toArray, List.getElem_cons_succ, List.getElem_cons_zero]
              refine wpAnyH_done (by kernel_rfl) ?_ _
              clear hHeld
              go_wp2
              go_roundw
              case rel => exact ⟨v, v, _, cnt1, rfl, rfl, hrg1.kept HG6.out (by simp) (by simp), hm2.kept HG6.out (by simp), hm3.kept HG6.out (by simp), hrow6, Lib.hid (HLx.out.low HMs.out HqS.out hvx), Lib.hid (HLy.out.low HMs.out HqH.out hvy), HB6⟩
              case measure => rw [(hrg1.kept HG6.out (by simp) (by simp)).left_eq, hrg.left_eq]; exact hlt1
            · go_wp2_with fail
              refine wp_region_held_drew (S := (fun V => (Instr.lookup 58 (.map (some b2)) (.int .i64 v) false).run Try.prog V = .ok (.int .i64 (nl : Int)) V ∧ (Instr.lookup 58 (.map (some b3)) (.int .i64 v) false).run Try.prog V = .ok (.int .i64 (nf : Int)) V ∧ V.rangeAt w.heap.size 0 C.toList)) (by kernel_rfl) (And.intro (HL2.out _ HG5.out) (And.intro (HL3.out _ HG5.out) (HRg.out _ HG5.out))) (fun hHeld => ?_)
              refine wpAnyH_take (i := 0) (v := ?vv45) rfl (by kernel_rfl) (by kernel_rfl) (by kernel_rfl) (fun _ _ _ h => h) (Or.inl ⟨by rfl, ?hy45⟩) hHeld ?rr45
              case hy45 => (intro w' hSw; obtain ⟨s0, s1, s2⟩ := hSw; go_simp; try with_reducible rfl)
              try simp only [Act.put, List.setIfInBounds_toArray, List.set_cons_zero, List.set_cons_succ, List.getElem_toArray, List.getElem_cons_succ, List.getElem_cons_zero]
              refine wpAnyH_take (i := 1) (v := ?vv46) rfl (by kernel_rfl) (by kernel_rfl) (by kernel_rfl) (fun _ _ _ h => h) (Or.inl ⟨by rfl, ?hy46⟩) hHeld ?rr46
              case hy46 => (intro w' hSw; obtain ⟨s0, s1, s2⟩ := hSw; go_simp; try with_reducible rfl)
              try simp only [Act.put, List.setIfInBounds_toArray, List.set_cons_zero, List.set_cons_succ, List.getElem_toArray, List.getElem_cons_succ, List.getElem_cons_zero]
              refine wpAnyH_take (i := 2) (v := ?vv47) rfl (by kernel_rfl) (by kernel_rfl) (by kernel_rfl) (fun _ _ _ h => h) (Or.inl ⟨by rfl, ?hy47⟩) hHeld ?rr47
              case hy47 => (intro w' hSw; obtain ⟨s0, s1, s2⟩ := hSw; go_simp; try with_reducible rfl)
              try simp only [Act.put, List.setIfInBounds_toArray, List.set_cons_zero, List.set_cons_succ, List.getElem_toArray, List.getElem_cons_succ, List.getElem_cons_zero]
              refine wpAnyH_take (i := 3) (v := ?vv48) rfl (by kernel_rfl) (by kernel_rfl) (by kernel_rfl) (fun _ _ _ h => h) (Or.inl ⟨by rfl, ?hy48⟩) hHeld ?rr48
              case hy48 => (intro w' hSw; obtain ⟨s0, s1, s2⟩ := hSw; go_simp; try with_reducible rfl)
              try simp only [Act.put, List.setIfInBounds_toArray, List.set_cons_zero, List.set_cons_succ, List.getElem_toArray, List.getElem_cons_succ, List.getElem_cons_zero]
              refine wpAnyH_take (i := 4) (v := .agg C) rfl (by kernel_rfl) (by kernel_rfl) (by kernel_rfl) (fun _ _ _ h => h) (yieldsIf_load_mid (by rfl) 27 (.tmp 2) rfl w.heap.size 0 rfl C.toList _ (fun V hV => hV.2.2) huJ rfl hszL) hHeld ?rr49
              try simp only [Act.put, List.setIfInBounds_toArray, List.set_cons_zero, List.set_cons_succ, List.getElem_toArray, List.getElem_cons_succ, List.getElem_cons_zero]
              refine wpAnyH_take (i := 5) (v := ?vv50) rfl (by kernel_rfl) (by kernel_rfl) (by kernel_rfl) (fun _ _ _ h => h) (Or.inl ⟨by rfl, ?hy50⟩) hHeld ?rr50
              case hy50 => (intro w' hSw; obtain ⟨s0, s1, s2⟩ := hSw; go_simp; try with_reducible rfl)
              try simp only [Act.put, List.setIfInBounds_toArray, List.set_cons_zero, List.set_cons_succ, List.getElem_toArray, List.getElem_cons_succ, List.getElem_cons_zero]
              refine wpAnyH_take (i := 6) (v := ?vv51) rfl (by kernel_rfl) (by kernel_rfl) (by kernel_rfl) (fun _ _ _ h => h) (Or.inl ⟨by rfl, ?hy51⟩) hHeld ?rr51
              case hy51 => (intro w' hSw; obtain ⟨s0, s1, s2⟩ := hSw; go_simp; try with_reducible rfl)
              try simp only [Act.put, List.setIfInBounds_toArray, List.set_cons_zero, List.set_cons_succ, List.getElem_toArray, List.getElem_cons_succ, List.getElem_cons_zero]
              refine wpAnyH_take (i := 7) (v := ?vv52) rfl (by kernel_rfl) (by kernel_rfl) (by kernel_rfl) (fun _ _ _ h => h) (Or.inl ⟨by rfl, ?hy52⟩) hHeld ?rr52
              case hy52 => (intro w' hSw; obtain ⟨s0, s1, s2⟩ := hSw; go_simp; try with_reducible rfl)
              try simp only [Act.put, List.setIfInBounds_toArray, List.set_cons_zero, List.set_cons_succ, List.getElem_toArray, List.getElem_cons_succ, List.getElem_cons_zero]
              refine wpAnyH_take (i := 8) (v := ?vv53) rfl (by kernel_rfl) (by kernel_rfl) (by kernel_rfl) (fun _ _ _ h => h) (Or.inl ⟨by rfl, ?hy53⟩) hHeld ?rr53
              case hy53 => (intro w' hSw; obtain ⟨s0, s1, s2⟩ := hSw; go_simp; try with_reducible rfl)
              try simp only [Act.put, List.setIfInBounds_toArray, List.set_cons_zero, List.set_cons_succ, List.getElem_toArray, List.getElem_cons_succ, List.getElem_cons_zero]
              refine wpAnyH_ready (rs := [9]) (by kernel_rfl) (by simp) ?_
              refine AllReadyH.cons rfl (fun K hK => ?_) AllReadyH.nil
              try rw [if_pos (by rfl)]
              go_simp
              go_at_call 28
              refine Calls.mono (by with_reducible exact HTc.out _) ?_
              rintro e w6 ⟨rfl, hb6⟩
              have HB6 := Lib.hid ((HB5.out.drew).trans (hb6.mono HB5.out.drew.size))
              have HG6 := Lib.hid (grown_below (show Below w5.heap.size w5 w6 from (Below.refl _ _).drew.trans hb6))
              have hrow6 := (hb6.block w.heap.size hjw5).trans hrow5
              clear hb6
              go_wp2_with fail
              refine hK.out _ _ (And.intro (HL2.out _ HG6.out) (And.intro (HL3.out _ HG6.out) (HRg.out _ HG6.out))) (fun hHeld2 => ?_)
              clear hK K hHeld
              have hHeld := hHeld2
              clear hHeld2
              try simp only [Act.put, List.setIfInBounds_toArray, List.set_cons_zero, List.set_cons_succ, List.getElem_toArray, List.getElem_cons_succ, List.getElem_cons_zero]
              refine wpAnyH_take (i := 10) (v := ?vv54) rfl (by kernel_rfl) (by kernel_rfl) (by kernel_rfl) (fun _ _ _ h => h) (Or.inl ⟨by rfl, ?hy54⟩) hHeld ?rr54
              case hy54 => (intro w' hSw; obtain ⟨s0, s1, s2⟩ := hSw; go_simp; try with_reducible rfl)
              try simp only [Act.put, List.setIfInBounds_toArray, List.set_cons_zero, List.set_cons_succ, List.getElem_toArray, List.getElem_cons_succ, List.getElem_cons_zero]
              refine wpAnyH_take (i := 11) (v := ?vv55) rfl (by kernel_rfl) (by kernel_rfl) (by kernel_rfl) (fun _ _ _ h => h) (Or.inl ⟨by rfl, ?hy55⟩) hHeld ?rr55
              case hy55 => (intro w' hSw; obtain ⟨s0, s1, s2⟩ := hSw; go_simp; try with_reducible rfl)
              try simp only [Act.put, List.setIfInBounds_toArray, List.set_cons_zero, List.set_cons_succ, List.getElem_toArray, List.getElem_cons_succ, List.getElem_cons_zero]
              refine wpAnyH_done (by kernel_rfl) ?_ _
              clear hHeld
              go_wp2
              go_roundw
              case rel => exact ⟨v, y, _, cnt1, rfl, rfl, hrg1.kept HG6.out (by simp) (by simp), hm2.kept HG6.out (by simp), hm3.kept HG6.out (by simp), hrow6, Lib.hid (HLx.out.low HMs.out HqS.out hvx), Lib.hid (HLy.out.high HMs.out HqH.out (by omega)), HB6⟩
              case measure => rw [(hrg1.kept HG6.out (by simp) (by simp)).left_eq, hrg.left_eq]; exact hlt1
          · by_cases hvy : v < y
            · go_wp2_with fail
              refine wp_region_held_drew (S := (fun V => (Instr.lookup 58 (.map (some b2)) (.int .i64 v) false).run Try.prog V = .ok (.int .i64 (nl : Int)) V ∧ (Instr.lookup 58 (.map (some b3)) (.int .i64 v) false).run Try.prog V = .ok (.int .i64 (nf : Int)) V ∧ V.rangeAt w.heap.size 0 C.toList)) (by kernel_rfl) (And.intro (HL2.out _ HG5.out) (And.intro (HL3.out _ HG5.out) (HRg.out _ HG5.out))) (fun hHeld => ?_)
              refine wpAnyH_take (i := 0) (v := ?vv56) rfl (by kernel_rfl) (by kernel_rfl) (by kernel_rfl) (fun _ _ _ h => h) (Or.inl ⟨by rfl, ?hy56⟩) hHeld ?rr56
              case hy56 => (intro w' hSw; obtain ⟨s0, s1, s2⟩ := hSw; go_simp; try with_reducible rfl)
              try simp only [Act.put, List.setIfInBounds_toArray, List.set_cons_zero, List.set_cons_succ, List.getElem_toArray, List.getElem_cons_succ, List.getElem_cons_zero]
              refine wpAnyH_take (i := 1) (v := ?vv57) rfl (by kernel_rfl) (by kernel_rfl) (by kernel_rfl) (fun _ _ _ h => h) (Or.inl ⟨by rfl, ?hy57⟩) hHeld ?rr57
              case hy57 => (intro w' hSw; obtain ⟨s0, s1, s2⟩ := hSw; go_simp; try with_reducible rfl)
              try simp only [Act.put, List.setIfInBounds_toArray, List.set_cons_zero, List.set_cons_succ, List.getElem_toArray, List.getElem_cons_succ, List.getElem_cons_zero]
              refine wpAnyH_take (i := 2) (v := ?vv58) rfl (by kernel_rfl) (by kernel_rfl) (by kernel_rfl) (fun _ _ _ h => h) (Or.inl ⟨by rfl, ?hy58⟩) hHeld ?rr58
              case hy58 => (intro w' hSw; obtain ⟨s0, s1, s2⟩ := hSw; go_simp; try with_reducible rfl)
              try simp only [Act.put, List.setIfInBounds_toArray, List.set_cons_zero, List.set_cons_succ, List.getElem_toArray, List.getElem_cons_succ, List.getElem_cons_zero]
              refine wpAnyH_take (i := 3) (v := ?vv59) rfl (by kernel_rfl) (by kernel_rfl) (by kernel_rfl) (fun _ _ _ h => h) (Or.inl ⟨by rfl, ?hy59⟩) hHeld ?rr59
              case hy59 => (intro w' hSw; obtain ⟨s0, s1, s2⟩ := hSw; go_simp; try with_reducible rfl)
              try simp only [Act.put, List.setIfInBounds_toArray, List.set_cons_zero, List.set_cons_succ, List.getElem_toArray, List.getElem_cons_succ, List.getElem_cons_zero]
              refine wpAnyH_take (i := 4) (v := .agg C) rfl (by kernel_rfl) (by kernel_rfl) (by kernel_rfl) (fun _ _ _ h => h) (yieldsIf_load_mid (by rfl) 27 (.tmp 2) rfl w.heap.size 0 rfl C.toList _ (fun V hV => hV.2.2) huJ rfl hszL) hHeld ?rr60
              try simp only [Act.put, List.setIfInBounds_toArray, List.set_cons_zero, List.set_cons_succ, List.getElem_toArray, List.getElem_cons_succ, List.getElem_cons_zero]
              refine wpAnyH_take (i := 5) (v := ?vv61) rfl (by kernel_rfl) (by kernel_rfl) (by kernel_rfl) (fun _ _ _ h => h) (Or.inl ⟨by rfl, ?hy61⟩) hHeld ?rr61
              case hy61 => (intro w' hSw; obtain ⟨s0, s1, s2⟩ := hSw; go_simp; try with_reducible rfl)
              try simp only [Act.put, List.setIfInBounds_toArray, List.set_cons_zero, List.set_cons_succ, List.getElem_toArray, List.getElem_cons_succ, List.getElem_cons_zero]
              refine wpAnyH_take (i := 6) (v := ?vv62) rfl (by kernel_rfl) (by kernel_rfl) (by kernel_rfl) (fun _ _ _ h => h) (Or.inl ⟨by rfl, ?hy62⟩) hHeld ?rr62
              case hy62 => (intro w' hSw; obtain ⟨s0, s1, s2⟩ := hSw; go_simp; try with_reducible rfl)
              try simp only [Act.put, List.setIfInBounds_toArray, List.set_cons_zero, List.set_cons_succ, List.getElem_toArray, List.getElem_cons_succ, List.getElem_cons_zero]
              refine wpAnyH_take (i := 7) (v := ?vv63) rfl (by kernel_rfl) (by kernel_rfl) (by kernel_rfl) (fun _ _ _ h => h) (Or.inl ⟨by rfl, ?hy63⟩) hHeld ?rr63
              case hy63 => (intro w' hSw; obtain ⟨s0, s1, s2⟩ := hSw; go_simp; try with_reducible rfl)
              try simp only [Act.put, List.setIfInBounds_toArray, List.set_cons_zero, List.set_cons_succ, List.getElem_toArray, List.getElem_cons_succ, List.getElem_cons_zero]
              refine wpAnyH_take (i := 8) (v := ?vv64) rfl (by kernel_rfl) (by kernel_rfl) (by kernel_rfl) (fun _ _ _ h => h) (Or.inl ⟨by rfl, ?hy64⟩) hHeld ?rr64
              case hy64 => (intro w' hSw; obtain ⟨s0, s1, s2⟩ := hSw; go_simp; try with_reducible rfl)
              try simp only [Act.put, List.setIfInBounds_toArray, List.set_cons_zero, List.set_cons_succ, List.getElem_toArray, List.getElem_cons_succ, List.getElem_cons_zero]
              refine wpAnyH_ready (rs := [9]) (by kernel_rfl) (by simp) ?_
              refine AllReadyH.cons rfl (fun K hK => ?_) AllReadyH.nil
              try rw [if_pos (by rfl)]
              go_simp
              go_at_call 28
              refine Calls.mono (by with_reducible exact HTc.out _) ?_
              rintro e w6 ⟨rfl, hb6⟩
              have HB6 := Lib.hid ((HB5.out.drew).trans (hb6.mono HB5.out.drew.size))
              have HG6 := Lib.hid (grown_below (show Below w5.heap.size w5 w6 from (Below.refl _ _).drew.trans hb6))
              have hrow6 := (hb6.block w.heap.size hjw5).trans hrow5
              clear hb6
              go_wp2_with fail
              refine hK.out _ _ (And.intro (HL2.out _ HG6.out) (And.intro (HL3.out _ HG6.out) (HRg.out _ HG6.out))) (fun hHeld2 => ?_)
              clear hK K hHeld
              have hHeld := hHeld2
              clear hHeld2
              try simp only [Act.put, List.setIfInBounds_toArray, List.set_cons_zero, List.set_cons_succ, List.getElem_toArray, List.getElem_cons_succ, List.getElem_cons_zero]
              refine wpAnyH_take (i := 10) (v := ?vv65) rfl (by kernel_rfl) (by kernel_rfl) (by kernel_rfl) (fun _ _ _ h => h) (Or.inl ⟨by rfl, ?hy65⟩) hHeld ?rr65
              case hy65 => (intro w' hSw; obtain ⟨s0, s1, s2⟩ := hSw; go_simp; try with_reducible rfl)
              try simp only [Act.put, List.setIfInBounds_toArray, List.set_cons_zero, List.set_cons_succ, List.getElem_toArray, List.getElem_cons_succ, List.getElem_cons_zero]
              refine wpAnyH_take (i := 11) (v := ?vv66) rfl (by kernel_rfl) (by kernel_rfl) (by kernel_rfl) (fun _ _ _ h => h) (Or.inl ⟨by rfl, ?hy66⟩) hHeld ?rr66
              case hy66 => (intro w' hSw; obtain ⟨s0, s1, s2⟩ := hSw; go_simp; try with_reducible rfl)
              try simp only [Act.put, List.setIfInBounds_toArray, List.set_cons_zero, List.set_cons_succ, List.getElem_toArray, List.getElem_cons_succ, List.getElem_cons_zero]
              refine wpAnyH_done (by kernel_rfl) ?_ _
              clear hHeld
              go_wp2
              go_roundw
              case rel => exact ⟨x, v, _, cnt1, rfl, rfl, hrg1.kept HG6.out (by simp) (by simp), hm2.kept HG6.out (by simp), hm3.kept HG6.out (by simp), hrow6, Lib.hid (HLx.out.high HMs.out HqS.out (by omega)), Lib.hid (HLy.out.low HMs.out HqH.out hvy), HB6⟩
              case measure => rw [(hrg1.kept HG6.out (by simp) (by simp)).left_eq, hrg.left_eq]; exact hlt1
            · go_wp2_with fail
              refine wp_region_held_drew (S := (fun V => (Instr.lookup 58 (.map (some b2)) (.int .i64 v) false).run Try.prog V = .ok (.int .i64 (nl : Int)) V ∧ (Instr.lookup 58 (.map (some b3)) (.int .i64 v) false).run Try.prog V = .ok (.int .i64 (nf : Int)) V ∧ V.rangeAt w.heap.size 0 C.toList)) (by kernel_rfl) (And.intro (HL2.out _ HG5.out) (And.intro (HL3.out _ HG5.out) (HRg.out _ HG5.out))) (fun hHeld => ?_)
              refine wpAnyH_take (i := 0) (v := ?vv67) rfl (by kernel_rfl) (by kernel_rfl) (by kernel_rfl) (fun _ _ _ h => h) (Or.inl ⟨by rfl, ?hy67⟩) hHeld ?rr67
              case hy67 => (intro w' hSw; obtain ⟨s0, s1, s2⟩ := hSw; go_simp; try with_reducible rfl)
              try simp only [Act.put, List.setIfInBounds_toArray, List.set_cons_zero, List.set_cons_succ, List.getElem_toArray, List.getElem_cons_succ, List.getElem_cons_zero]
              refine wpAnyH_take (i := 1) (v := ?vv68) rfl (by kernel_rfl) (by kernel_rfl) (by kernel_rfl) (fun _ _ _ h => h) (Or.inl ⟨by rfl, ?hy68⟩) hHeld ?rr68
              case hy68 => (intro w' hSw; obtain ⟨s0, s1, s2⟩ := hSw; go_simp; try with_reducible rfl)
              try simp only [Act.put, List.setIfInBounds_toArray, List.set_cons_zero, List.set_cons_succ, List.getElem_toArray, List.getElem_cons_succ, List.getElem_cons_zero]
              refine wpAnyH_take (i := 2) (v := ?vv69) rfl (by kernel_rfl) (by kernel_rfl) (by kernel_rfl) (fun _ _ _ h => h) (Or.inl ⟨by rfl, ?hy69⟩) hHeld ?rr69
              case hy69 => (intro w' hSw; obtain ⟨s0, s1, s2⟩ := hSw; go_simp; try with_reducible rfl)
              try simp only [Act.put, List.setIfInBounds_toArray, List.set_cons_zero, List.set_cons_succ, List.getElem_toArray, List.getElem_cons_succ, List.getElem_cons_zero]
              refine wpAnyH_take (i := 3) (v := ?vv70) rfl (by kernel_rfl) (by kernel_rfl) (by kernel_rfl) (fun _ _ _ h => h) (Or.inl ⟨by rfl, ?hy70⟩) hHeld ?rr70
              case hy70 => (intro w' hSw; obtain ⟨s0, s1, s2⟩ := hSw; go_simp; try with_reducible rfl)
              try simp only [Act.put, List.setIfInBounds_toArray, List.set_cons_zero, List.set_cons_succ, List.getElem_toArray, List.getElem_cons_succ, List.getElem_cons_zero]
              refine wpAnyH_take (i := 4) (v := .agg C) rfl (by kernel_rfl) (by kernel_rfl) (by kernel_rfl) (fun _ _ _ h => h) (yieldsIf_load_mid (by rfl) 27 (.tmp 2) rfl w.heap.size 0 rfl C.toList _ (fun V hV => hV.2.2) huJ rfl hszL) hHeld ?rr71
              try simp only [Act.put, List.setIfInBounds_toArray, List.set_cons_zero, List.set_cons_succ, List.getElem_toArray, List.getElem_cons_succ, List.getElem_cons_zero]
              refine wpAnyH_take (i := 5) (v := ?vv72) rfl (by kernel_rfl) (by kernel_rfl) (by kernel_rfl) (fun _ _ _ h => h) (Or.inl ⟨by rfl, ?hy72⟩) hHeld ?rr72
              case hy72 => (intro w' hSw; obtain ⟨s0, s1, s2⟩ := hSw; go_simp; try with_reducible rfl)
              try simp only [Act.put, List.setIfInBounds_toArray, List.set_cons_zero, List.set_cons_succ, List.getElem_toArray, List.getElem_cons_succ, List.getElem_cons_zero]
              refine wpAnyH_take (i := 6) (v := ?vv73) rfl (by kernel_rfl) (by kernel_rfl) (by kernel_rfl) (fun _ _ _ h => h) (Or.inl ⟨by rfl, ?hy73⟩) hHeld ?rr73
              case hy73 => (intro w' hSw; obtain ⟨s0, s1, s2⟩ := hSw; go_simp; try with_reducible rfl)
              try simp only [Act.put, List.setIfInBounds_toArray, List.set_cons_zero, List.set_cons_succ, List.getElem_toArray, List.getElem_cons_succ, List.getElem_cons_zero]
              refine wpAnyH_take (i := 7) (v := ?vv74) rfl (by kernel_rfl) (by kernel_rfl) (by kernel_rfl) (fun _ _ _ h => h) (Or.inl ⟨by rfl, ?hy74⟩) hHeld ?rr74
              case hy74 => (intro w' hSw; obtain ⟨s0, s1, s2⟩ := hSw; go_simp; try with_reducible rfl)
              try simp only [Act.put, List.setIfInBounds_toArray, List.set_cons_zero, List.set_cons_succ, List.getElem_toArray, List.getElem_cons_succ, List.getElem_cons_zero]
              refine wpAnyH_take (i := 8) (v := ?vv75) rfl (by kernel_rfl) (by kernel_rfl) (by kernel_rfl) (fun _ _ _ h => h) (Or.inl ⟨by rfl, ?hy75⟩) hHeld ?rr75
              case hy75 => (intro w' hSw; obtain ⟨s0, s1, s2⟩ := hSw; go_simp; try with_reducible rfl)
              try simp only [Act.put, List.setIfInBounds_toArray, List.set_cons_zero, List.set_cons_succ, List.getElem_toArray, List.getElem_cons_succ, List.getElem_cons_zero]
              refine wpAnyH_ready (rs := [9]) (by kernel_rfl) (by simp) ?_
              refine AllReadyH.cons rfl (fun K hK => ?_) AllReadyH.nil
              try rw [if_pos (by rfl)]
              go_simp
              go_at_call 28
              refine Calls.mono (by with_reducible exact HTc.out _) ?_
              rintro e w6 ⟨rfl, hb6⟩
              have HB6 := Lib.hid ((HB5.out.drew).trans (hb6.mono HB5.out.drew.size))
              have HG6 := Lib.hid (grown_below (show Below w5.heap.size w5 w6 from (Below.refl _ _).drew.trans hb6))
              have hrow6 := (hb6.block w.heap.size hjw5).trans hrow5
              clear hb6
              go_wp2_with fail
              refine hK.out _ _ (And.intro (HL2.out _ HG6.out) (And.intro (HL3.out _ HG6.out) (HRg.out _ HG6.out))) (fun hHeld2 => ?_)
              clear hK K hHeld
              have hHeld := hHeld2
              clear hHeld2
              try simp only [Act.put, List.setIfInBounds_toArray, List.set_cons_zero, List.set_cons_succ, List.getElem_toArray, List.getElem_cons_succ, List.getElem_cons_zero]
              refine wpAnyH_take (i := 10) (v := ?vv76) rfl (by kernel_rfl) (by kernel_rfl) (by kernel_rfl) (fun _ _ _ h => h) (Or.inl ⟨by rfl, ?hy76⟩) hHeld ?rr76
              case hy76 => (intro w' hSw; obtain ⟨s0, s1, s2⟩ := hSw; go_simp; try with_reducible rfl)
              try simp only [Act.put, List.setIfInBounds_toArray, List.set_cons_zero, List.set_cons_succ, List.getElem_toArray, List.getElem_cons_succ, List.getElem_cons_zero]
              refine wpAnyH_take (i := 11) (v := ?vv77) rfl (by kernel_rfl) (by kernel_rfl) (by kernel_rfl) (fun _ _ _ h => h) (Or.inl ⟨by rfl, ?hy77⟩) hHeld ?rr77
              case hy77 => (intro w' hSw; obtain ⟨s0, s1, s2⟩ := hSw; go_simp; try with_reducible rfl)
              try simp only [Act.put, List.setIfInBounds_toArray, List.set_cons_zero, List.set_cons_succ, List.getElem_toArray, List.getElem_cons_succ, List.getElem_cons_zero]
              refine wpAnyH_done (by kernel_rfl) ?_ _
              clear hHeld
              go_wp2
              go_roundw
              case rel => exact ⟨x, y, _, cnt1, rfl, rfl, hrg1.kept HG6.out (by simp) (by simp), hm2.kept HG6.out (by simp), hm3.kept HG6.out (by simp), hrow6, Lib.hid (HLx.out.high HMs.out HqS.out (by omega)), Lib.hid (HLy.out.high HMs.out HqH.out (by omega)), HB6⟩
              case measure => rw [(hrg1.kept HG6.out (by simp) (by simp)).left_eq, hrg.left_eq]; exact hlt1
end Go.Proofs.Ytcbnankocjlobaa
