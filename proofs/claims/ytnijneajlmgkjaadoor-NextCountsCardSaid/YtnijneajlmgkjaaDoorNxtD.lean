/- Iterators upon iterators: what their makers hand back; who owns what in a loop within an iterator. -/
import Derived.Test.YtnijneajlmgkjaaDoorNxtC
import Derived.Test.YtnijneajlmgkjaaDoorCroN
import Derived.Test.YtnijneajlmgkjaaDoorQuietW
set_option linter.unusedSimpArgs false
set_option linter.unusedVariables false
namespace Go.Base
open Go
theorem wpIn_region_heldW {n id : Nat} {P : Program} {ops : Array Oper} {S : World → Prop} {Q : Exit → Act → World → Prop} {a : Act} {w : World} (hm : P.follows .mixedOrders = true) (hd : noDefer ops = true) (hQ : ¬ LetsOut Q) (hS : S w.drew)
    (h : S w.drew → wpAnyH P .any ops Q S ops.size (Array.replicate ops.size false) a w.drew) : (Code.region id ops true).wpIn Fence.wide n P Q a w :=
  wpIn_region_any hm (wpAnyW_of hQ hd _ _ _ _ (wpAny_of_held _ _ _ _ (h hS)))
end Go.Base
namespace Go
open Go.RowKit Go.Proofs.YtnijneajlmgkjaaDoor
theorem RoundIn.deep {l0 m m' : Nat} {P : Program} {l : Nat} {f : FuncId} {tmps : Array Value} {assign body : Code} {w : World} {R : Ending → World → Prop}
    (h : RoundIn Fence.wide m P l f tmps assign body w R) : RoundIn (Fence.wide.inRound l0) m' P l f tmps assign body w R := ⟨h.1, fun c cs _ => h.2 c cs (room_wide _)⟩
theorem YieldAt.deep {l0 m m' : Nat} {P : Program} {l : Nat} {args : Array Value} {W : World} {R : Ending → World → Prop} (h : YieldAt Fence.wide m P l args W R) : YieldAt (Fence.wide.inRound l0) m' P l args W R := by
  obtain ⟨fn, tmps, assign, body, hy, hR⟩ := h
  exact ⟨fn, tmps, assign, body, hy, RoundIn.deep hR⟩
/-- What is so between the rounds of a loop that stands in an iterator: of the iterator's own caller J, where the iterator owns the blocks Q with those that the loop's does; the blocks K lie as they lay in V. -/
def Mine {α β : Type} (J : (Nat → Prop) → List β → World → Prop) (Q K : Nat → Prop) (V : World) (f : List α → List β) (O : Nat → Prop) (pre : List α) (W : World) : Prop :=
  J (fun k => O k ∨ Q k) (f pre) W ∧ Moved (fun k => ¬ K k) V W
theorem mine_abides {α β : Type} {J : (Nat → Prop) → List β → World → Prop} {Q K : Nat → Prop} {V : World} {f : List α → List β} {B : Nat} (hJ : AbidesO B J) (hB : B ≤ V.heap.size) (hQ : ∀ k, Q k → B ≤ k ∧ k < V.heap.size) (hK : ∀ k, K k → k < V.heap.size) :
    AbidesO V.heap.size (Mine J Q K V f) := fun O O' s W W' h hs => by
  have hz := h.2.size
  have hz' := hs.moved.size
  refine ⟨hJ _ _ _ _ _ h.1 ⟨?_, hs.moved.weaken (fun k _ h => .inl h), ?_, ?_⟩, h.2.trans hs.moved (fun k hk ho hn => by have := (hs.own k ho).1; have := hK k hn; omega)⟩
  · rintro k (hk | hk)
    · have := hs.own k hk; omega
    · have := hQ k hk; omega
  · rintro k (hk | hk)
    · have := hs.own' k hk; omega
    · have := hQ k hk; omega
  · rintro k (hk | hk)
    · rcases hs.new k hk with h | h
      · exact .inl (.inl h)
      · exact .inr h
    · exact .inl (.inr hk)
/-- What is so where such a loop's round has left by a return: the iterator's own caller has said 'no more'. -/
def MineX {β : Type} (Jx : (Nat → Prop) → List β → World → Prop) (Q K : Nat → Prop) (V : World) (M : List β) (c : Code) (O : Nat → Prop) (W : World) : Prop :=
  c = .ret ∧ (∃ q, q <+: M ∧ Jx (fun k => O k ∨ Q k) q W) ∧ Moved (fun k => ¬ K k) V W
theorem minex_abides {α β : Type} {Jx : (Nat → Prop) → List β → World → Prop} {Q K : Nat → Prop} {V : World} {M : List β} {B : Nat} (hJ : AbidesO B Jx) (hB : B ≤ V.heap.size) (hQ : ∀ k, Q k → B ≤ k ∧ k < V.heap.size) (hK : ∀ k, K k → k < V.heap.size) (c : Code) :
    AbidesO V.heap.size (fun O (_ : List α) W => MineX Jx Q K V M c O W) := fun O O' s W W' h hs => by
  obtain ⟨h1, ⟨q, hq, hx⟩, hm⟩ := h
  have hz := hm.size
  have hz' := hs.moved.size
  refine ⟨h1, ⟨q, hq, hJ _ _ _ _ _ hx ⟨?_, hs.moved.weaken (fun k _ h => .inl h), ?_, ?_⟩⟩, hm.trans hs.moved (fun k hk ho hn => by have := (hs.own k ho).1; have := hK k hn; omega)⟩
  · rintro k (hk | hk)
    · have := hs.own k hk; omega
    · have := hQ k hk; omega
  · rintro k (hk | hk)
    · have := hs.own' k hk; omega
    · have := hQ k hk; omega
  · rintro k (hk | hk)
    · rcases hs.new k hk with h | h
      · exact .inl (.inl h)
      · exact .inr h
    · exact .inl (.inr hk)
/-- The owner gives up what it does not want, or takes what it has made. -/
theorem AbidesO.turn {β : Type} {B : Nat} {J : (Nat → Prop) → β → World → Prop} (hJ : AbidesO B J) {O O' : Nat → Prop} {s : β} {W W' : World} (h : J O s W) (ho : OwnO B O W) (hm : Moved O W W') (ho' : OwnO B O' W') (hn : ∀ k, O' k → O k ∨ W.heap.size ≤ k) : J O' s W' := hJ _ _ _ _ _ h ⟨ho, hm, ho', hn⟩
end Go
namespace Go.Proofs.YtnijneajlmgkjaaDoor
open Go.ChangeShapes Go.WideShapes Go.ChangeAt Go.RowKit Go.Base Go.Civ Go.Nxt

/-- A date's, a spec's cells. -/
abbrev dateC (y mo d h mi s wk : Int) : Array Value := #[.int .i64 y, .int .i64 mo, .int .i64 d, .int .i64 h, .int .i64 mi, .int .i64 s, .int .i64 wk]
abbrev dateV (y mo d h mi s wk : Int) : Value := .agg #[.int .i64 y, .int .i64 mo, .int .i64 d, .int .i64 h, .int .i64 mi, .int .i64 s, .int .i64 wk]
abbrev fwC : Array Value := #[.int .i64 1, .func (.func 44) #[] #[], .func (.func 45) #[] #[], .int .i64 0, .int .i64 0, .int .i64 0, .int .i64 0, .int .i64 0, .int .i64 0, .int .i64 0]
abbrev fwV : Value := .agg fwC
abbrev bwC : Array Value := #[.int .i64 (-1), .func (.func 62) #[] #[], .func (.func 64) #[] #[], .int .i64 0, .int .i64 0, .int .i64 0, .int .i64 23, .int .i64 59, .int .i64 0, .int .i64 0]
abbrev bwV : Value := .agg bwC
abbrev zW : Array Value := #[.int .i64 0, .nilFunc, .nilFunc, .int .i64 0, .int .i64 0, .int .i64 0, .int .i64 0, .int .i64 0, .int .i64 0, .int .i64 0]
abbrev ptrV (b : Nat) : Value := .pointer (some ⟨b, 0, none⟩)

theorem fw_any (w : World) : Calls Tryd.prog 21 #[] w fun e w' => e = .returned fwV ∧ Below w.heap.size w w' := by
  go_enter Tryd.func21, Tryd.ntmps21
  go_wp2_with (refine wpList_store_new rfl 45 (.tmp 0) (.tmp 1) rfl w.heap.size fwC rfl rfl 45 zW (heap_new w _) (by kernel_rfl) rfl rfl ?_; intro w2 hs2 hb2 hg2 ho2; have HB2 := Lib.hid (hb2 w.heap.size w (below_alloc w _) (Nat.le_refl _)); have HG2 := Lib.hid hg2; clear hs2 hb2 ho2 hg2)
  refine bodyPost_ret (results_cell_row rfl _ _ w.heap.size 45 _ (0, 0) _ rfl HG2.out Tryd.underlying45 rfl (by kernel_rfl)) rfl ?_
  exact ⟨rfl, HB2.out⟩

theorem eachMk_fw (set : Int) (w : World) : Calls Tryd.prog 66 #[fwV, .int .u64 set] w fun e w' =>
    e = .returned (.func (.func 76) #[] #[ptrV (w.heap.size + 1), ptrV w.heap.size]) ∧ w' = (w.alloc (.cells fwC 45)).alloc (.cells #[.int .u64 set] 22) := by
  go_enter Tryd.func66, Tryd.ntmps66
  go_wp2
  go_ret
  exact ⟨by simp, rfl⟩
theorem clockMk_fw (mi ho da mo we : Int) (ad aw : Bool) (y m d h i s wk : Int) (w : World) : Calls Tryd.prog 49 #[fwV, spV ⟨mi, ho, da, mo, we, ad, aw⟩, dateV y m d h i s wk] w fun e w' =>
    e = .returned (.func (.func 68) #[] #[ptrV w.heap.size, ptrV (w.heap.size + 1), ptrV (w.heap.size + 2)]) ∧
      w' = ((w.alloc (.cells fwC 45)).alloc (.cells #[.int .u64 mi, .int .u64 ho, .int .u64 da, .int .u64 mo, .int .u64 we, .bool ad, .bool aw] 24)).alloc (.cells (dateC y m d h i s wk) 43) := by
  go_enter Tryd.func49, Tryd.ntmps49
  go_wp2
  go_ret
  exact ⟨by simp, rfl⟩
theorem midMk_fw (mi ho da mo we : Int) (ad aw : Bool) (y m d h i s wk : Int) (w : World) : Calls Tryd.prog 48 #[fwV, spV ⟨mi, ho, da, mo, we, ad, aw⟩, dateV y m d h i s wk] w fun e w' =>
    e = .returned (.func (.func 65) #[] #[ptrV (w.heap.size + 2), ptrV w.heap.size, ptrV (w.heap.size + 1)]) ∧
      w' = ((w.alloc (.cells fwC 45)).alloc (.cells #[.int .u64 mi, .int .u64 ho, .int .u64 da, .int .u64 mo, .int .u64 we, .bool ad, .bool aw] 24)).alloc (.cells (dateC y m d h i s wk) 43) := by
  go_enter Tryd.func48, Tryd.ntmps48
  go_wp2
  go_ret
  exact ⟨by simp, rfl⟩
theorem momMk_fw (mi ho da mo we : Int) (ad aw : Bool) (t : Int) (w : World) : Calls Tryd.prog 22 #[fwV, spV ⟨mi, ho, da, mo, we, ad, aw⟩, .int .i64 t] w fun e w' =>
    e = .returned (.func (.func 47) #[] #[ptrV (w.heap.size + 2), ptrV w.heap.size, ptrV (w.heap.size + 1)]) ∧
      w' = ((w.alloc (.cells fwC 45)).alloc (.cells #[.int .u64 mi, .int .u64 ho, .int .u64 da, .int .u64 mo, .int .u64 we, .bool ad, .bool aw] 24)).alloc (.cells #[.int .i64 t] 3) := by
  go_enter Tryd.func22, Tryd.ntmps22
  go_wp2
  go_ret
  exact ⟨by simp, rfl⟩

theorem bw_any (w : World) : Calls Tryd.prog 43 #[] w fun e w' => e = .returned bwV ∧ Below w.heap.size w w' := by
  go_enter Tryd.func43, Tryd.ntmps43
  go_wp2_with (refine wpList_store_new rfl 45 (.tmp 0) (.tmp 2) rfl w.heap.size bwC rfl rfl 45 zW (heap_new w _) (by kernel_rfl) rfl rfl ?_; intro w2 hs2 hb2 hg2 ho2; have HB2 := Lib.hid (hb2 w.heap.size w (below_alloc w _) (Nat.le_refl _)); have HG2 := Lib.hid hg2; clear hs2 hb2 ho2 hg2)
  refine bodyPost_ret (results_cell_row rfl _ _ w.heap.size 45 _ (0, 0) _ rfl HG2.out Tryd.underlying45 rfl (by kernel_rfl)) rfl ?_
  exact ⟨rfl, HB2.out⟩

theorem eachMk_bw (set : Int) (w : World) : Calls Tryd.prog 66 #[bwV, .int .u64 set] w fun e w' =>
    e = .returned (.func (.func 76) #[] #[ptrV (w.heap.size + 1), ptrV w.heap.size]) ∧ w' = (w.alloc (.cells bwC 45)).alloc (.cells #[.int .u64 set] 22) := by
  go_enter Tryd.func66, Tryd.ntmps66
  go_wp2
  go_ret
  exact ⟨by simp, rfl⟩
theorem clockMk_bw (mi ho da mo we : Int) (ad aw : Bool) (y m d h i s wk : Int) (w : World) : Calls Tryd.prog 49 #[bwV, spV ⟨mi, ho, da, mo, we, ad, aw⟩, dateV y m d h i s wk] w fun e w' =>
    e = .returned (.func (.func 68) #[] #[ptrV w.heap.size, ptrV (w.heap.size + 1), ptrV (w.heap.size + 2)]) ∧
      w' = ((w.alloc (.cells bwC 45)).alloc (.cells #[.int .u64 mi, .int .u64 ho, .int .u64 da, .int .u64 mo, .int .u64 we, .bool ad, .bool aw] 24)).alloc (.cells (dateC y m d h i s wk) 43) := by
  go_enter Tryd.func49, Tryd.ntmps49
  go_wp2
  go_ret
  exact ⟨by simp, rfl⟩
theorem midMk_bw (mi ho da mo we : Int) (ad aw : Bool) (y m d h i s wk : Int) (w : World) : Calls Tryd.prog 48 #[bwV, spV ⟨mi, ho, da, mo, we, ad, aw⟩, dateV y m d h i s wk] w fun e w' =>
    e = .returned (.func (.func 65) #[] #[ptrV (w.heap.size + 2), ptrV w.heap.size, ptrV (w.heap.size + 1)]) ∧
      w' = ((w.alloc (.cells bwC 45)).alloc (.cells #[.int .u64 mi, .int .u64 ho, .int .u64 da, .int .u64 mo, .int .u64 we, .bool ad, .bool aw] 24)).alloc (.cells (dateC y m d h i s wk) 43) := by
  go_enter Tryd.func48, Tryd.ntmps48
  go_wp2
  go_ret
  exact ⟨by simp, rfl⟩
theorem momMk_bw (mi ho da mo we : Int) (ad aw : Bool) (t : Int) (w : World) : Calls Tryd.prog 22 #[bwV, spV ⟨mi, ho, da, mo, we, ad, aw⟩, .int .i64 t] w fun e w' =>
    e = .returned (.func (.func 47) #[] #[ptrV (w.heap.size + 2), ptrV w.heap.size, ptrV (w.heap.size + 1)]) ∧
      w' = ((w.alloc (.cells bwC 45)).alloc (.cells #[.int .u64 mi, .int .u64 ho, .int .u64 da, .int .u64 mo, .int .u64 we, .bool ad, .bool aw] 24)).alloc (.cells #[.int .i64 t] 3) := by
  go_enter Tryd.func22, Tryd.ntmps22
  go_wp2
  go_ret
  exact ⟨by simp, rfl⟩
end Go.Proofs.YtnijneajlmgkjaaDoor
