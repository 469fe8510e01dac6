/- Package wave: Advise. -/
import Derived.Test.YtcbnankocjlobaaWavG
import Derived.Test.YtcbnankocjlobaaAppendK
set_option linter.unusedSimpArgs false
set_option linter.unusedVariables false
namespace Go.Proofs.Ytcbnankocjlobaa
open Go.ChangeShapes Go.WideShapes Go.ChangeAt Go.RowKit Go.Base Go.Maps

structure Adv where
  start : List Nat
  skip : List (Nat × Int)
def stepAdv (fai par : Int) (l : List Stp) (now on : Int) (a : Adv) (k : Nat) (s : Stp) : Adv :=
  if (s.st == 1) = false then a
  else if s.un ≤ now then ⟨a.start, a.skip ++ [(k, 3)]⟩
  else if haltB fai l s.wv = true then ⟨a.start, a.skip ++ [(k, 5)]⟩
  else if (openB fai l s.wv && decide (s.at_ ≤ now) && roomB par (on + (a.start.length : Nat))) = true then ⟨a.start ++ [k], a.skip⟩ else a
def advK (fai par : Int) (l : List Stp) (now on : Int) : Nat → Adv
  | 0 => ⟨[], []⟩
  | k + 1 => stepAdv fai par l now on (advK fai par l now on k) k (l.getD k default)
def advR (fai par : Int) (l : List Stp) (now : Int) : Adv := advK fai par l now (cnt (isS 2) l : Nat) l.length
def stV (l : List Nat) : List Value := l.map (fun (k : Nat) => .int .i64 (k : Int))
def skV (l : List (Nat × Int)) : List Value := l.flatMap (fun x => [.int .i64 (x.1 : Int), .int .i64 x.2])
theorem stV_snoc (l : List Nat) (k : Nat) : stV (l ++ [k]) = stV l ++ [.int .i64 (k : Int)] := by simp [stV]
theorem skV_snoc (l : List (Nat × Int)) (k : Nat) (r : Int) : skV (l ++ [(k, r)]) = skV l ++ [.int .i64 (k : Int), .int .i64 r] := by simp [skV]
theorem adv_len (fai par : Int) (l : List Stp) (now on : Int) : ∀ k, (advK fai par l now on k).start.length + (advK fai par l now on k).skip.length ≤ k
  | 0 => Nat.le_refl _
  | k + 1 => by
    have ih := adv_len fai par l now on k
    show (stepAdv fai par l now on (advK fai par l now on k) k (l.getD k default)).start.length + (stepAdv fai par l now on (advK fai par l now on k) k (l.getD k default)).skip.length ≤ k + 1
    unfold stepAdv
    repeat' split
    all_goals (first | omega | (simp only [List.length_append, List.length_cons, List.length_nil]; omega))
/-- An advice, as a call hands it back. -/
structure AdvW (w : World) (B : Nat) (As : Option Addr) (cs : Nat) (Ak : Option Addr) (ck : Nat) (a : Adv) : Prop where
  s : w.ownsRow B 3 1 (.slice As a.start.length cs) a.start.length (stV a.start)
  k : w.ownsRow B 48 2 (.slice Ak a.skip.length ck) a.skip.length (skV a.skip)
theorem AdvW.later {w w' : World} {B cs ck : Nat} {As Ak : Option Addr} {a : Adv} (h : AdvW w B As cs Ak ck a) (hb : Below w.heap.size w w') : AdvW w' B As cs Ak ck a :=
  ⟨own_moved (p := fun _ => False) h.s (Below.movedNew hb) (fun _ _ h => h), own_moved (p := fun _ => False) h.k (Below.movedNew hb) (fun _ _ h => h)⟩
def AdvPost (a : Adv) (w : World) (e : Ending) (w' : World) : Prop :=
  ∃ As cs Ak ck, e = .returned (.agg #[.slice As a.start.length cs, .slice Ak a.skip.length ck]) ∧ AdvW w' w.heap.size As cs Ak ck a ∧ Below w.heap.size w w'
theorem infoI : ∃ i, Try.prog.info? 3 = some i ∧ i.zero = some (.int .i64 0) ∧ i.size = 1 ∧ i.bytes = 8 := info_parts (by kernel_rfl)
theorem infoK : ∃ i, Try.prog.info? 48 = some i ∧ i.zero = some (.agg #[.int .i64 0, .int .i64 0]) ∧ i.size = 2 ∧ i.bytes = 16 := info_parts (by kernel_rfl)
theorem szAd : (Try.prog.info? 34).map (·.size) = some 2 := by kernel_rfl
/-- What lies in the world in the middle of Advise. -/
structure Mid (w0 w : World) (C : Array Value) (g : Nat) (As : Option Addr) (cs : Nat) (Ak : Option Addr) (ck : Nat) (a : Adv) : Prop where
  adv : AdvW w w0.heap.size As cs Ak ck a
  cell : w.heap[g]? = some (.cells #[.slice As a.start.length cs, .slice Ak a.skip.length ck] 34 (0, 0))
  job : w.heap[w0.heap.size]? = some (.cells C 27 (0, 0))
  res : w.heap[w0.heap.size + 1]? = some (.cells #[.slice none 0 0, .slice none 0 0] 34 (0, 0))
  g0 : w0.heap.size + 1 < g
  below : Below w0.heap.size w0 w
theorem Mid.later {w0 w w' : World} {C : Array Value} {g cs ck : Nat} {As Ak : Option Addr} {a : Adv} (h : Mid w0 w C g As cs Ak ck a) (hb : Below w.heap.size w w') : Mid w0 w' C g As cs Ak ck a :=
  ⟨h.adv.later hb, (hb.block _ (heap_lt h.cell)).trans h.cell, (hb.block _ (heap_lt h.job)).trans h.job, (hb.block _ (heap_lt h.res)).trans h.res, h.g0, h.below.trans (hb.mono h.below.size)⟩
/-- Skip has grown by one. -/
theorem Mid.skip {w0 w w1 : World} {C : Array Value} {g cs ck : Nat} {As Ak : Option Addr} {a : Adv} (h : Mid w0 w C g As cs Ak ck a) {A' : Option Addr} {c' : Nat} {k : Nat} {r : Int}
    (ho : w1.ownsRow w0.heap.size 48 2 (.slice A' (a.skip.length + 1) c') (a.skip.length + 1) (skV a.skip ++ [.int .i64 (k : Int), .int .i64 r]))
    (hg : w.grownBy w1 (Value.slice Ak a.skip.length ck).ownBlock) (hn : (Value.slice A' (a.skip.length + 1) c').ownBlock = (Value.slice Ak a.skip.length ck).ownBlock ∨ (Value.slice A' (a.skip.length + 1) c').ownBlock = some w.heap.size) :
    Mid w0 (w1.setCell ⟨g, 1, none⟩ (.slice A' (a.skip.length + 1) c')) C g As cs A' c' ⟨a.start, a.skip ++ [(k, r)]⟩ := by
  have hk : ∀ j, (Value.slice Ak a.skip.length ck).ownBlock = some j → ∀ {cs' : Array Value} {t : TypeId} {z : Nat × Nat} {b : Nat}, w.heap[b]? = some (.cells cs' t z) → 48 ≠ t → some b ≠ (Value.slice Ak a.skip.length ck).ownBlock := fun j hj cs' t z b hb hne e => own_ne h.adv.k hb hne e.symm
  have hk2 : ∀ {cs' : Array Value} {t : TypeId} {z : Nat × Nat} {b : Nat}, w.heap[b]? = some (.cells cs' t z) → 48 ≠ t → some b ≠ (Value.slice Ak a.skip.length ck).ownBlock := fun {cs' t z b} hb hne e => own_ne h.adv.k hb hne e.symm
  have keep : ∀ {cs' : Array Value} {t : TypeId} {z : Nat × Nat} {b : Nat}, w.heap[b]? = some (.cells cs' t z) → 48 ≠ t → w1.heap[b]? = some (.cells cs' t z) := fun {cs' t z b} hb hne => (hg.block b (heap_lt hb) (hk2 hb hne)).trans hb
  have h1 := keep h.cell (by decide)
  have hms : Moved (fun j => (Value.slice Ak a.skip.length ck).ownBlock = some j) w w1 := (Moved.refl _ w).grown hg (fun _ _ e => e)
  have hss := own_moved h.adv.s hms (fun j hj e => by
    rcases h.adv.s.2 with ⟨hv, _⟩ | ⟨b, cap, cur, hv, _, hb, _⟩
    · rw [hv] at hj; cases hj
    · rw [hv] at hj; cases hj
      exact own_ne h.adv.k hb (by decide) e)
  have mset : Moved (fun j => j = g) w1 (w1.setCell ⟨g, 1, none⟩ (.slice A' (a.skip.length + 1) c')) := (Moved.refl (fun j => j = g) w1).setCell (.inr rfl) _
  refine ⟨⟨own_moved hss mset (fun j hj e => ?_), ?_⟩, ?_, ?_, ?_, h.g0, ?_⟩
  · subst e; exact own_ne hss h1 (by decide) hj
  · have := own_moved ho mset (fun j hj e => by subst e; exact own_ne ho h1 (by decide) hj)
    rw [skV_snoc]
    simpa using this
  · have := heap_set h1 1 (.slice A' (a.skip.length + 1) c')
    simpa using this
  · rw [Below.heap_setCell _ _ _ _ (by have := h.g0; show w0.heap.size ≠ g; omega)]; exact keep h.job (by decide)
  · rw [Below.heap_setCell _ _ _ _ (by have := h.g0; show w0.heap.size + 1 ≠ g; omega)]; exact keep h.res (by decide)
  · have hb1 := h.below.grown hg h.below.size (fun j hj => (h.adv.k.lt j hj).1)
    exact ⟨hb1.os, hb1.tape, hb1.output, by simpa using hb1.size, fun j hj => by
      rw [Below.heap_setCell _ _ _ _ (by have := h.g0; show j ≠ g; omega)]; exact hb1.block j hj⟩
theorem Mid.start {w0 w w1 : World} {C : Array Value} {g cs ck : Nat} {As Ak : Option Addr} {a : Adv} (h : Mid w0 w C g As cs Ak ck a) {A' : Option Addr} {c' : Nat} {k : Nat}
    (ho : w1.ownsRow w0.heap.size 3 1 (.slice A' (a.start.length + 1) c') (a.start.length + 1) (stV a.start ++ [.int .i64 (k : Int)]))
    (hg : w.grownBy w1 (Value.slice As a.start.length cs).ownBlock) (hn : (Value.slice A' (a.start.length + 1) c').ownBlock = (Value.slice As a.start.length cs).ownBlock ∨ (Value.slice A' (a.start.length + 1) c').ownBlock = some w.heap.size) :
    Mid w0 (w1.setCell ⟨g, 0, none⟩ (.slice A' (a.start.length + 1) c')) C g A' c' Ak ck ⟨a.start ++ [k], a.skip⟩ := by
  have hk2 : ∀ {cs' : Array Value} {t : TypeId} {z : Nat × Nat} {b : Nat}, w.heap[b]? = some (.cells cs' t z) → 3 ≠ t → some b ≠ (Value.slice As a.start.length cs).ownBlock := fun {cs' t z b} hb hne e => own_ne h.adv.s hb hne e.symm
  have keep : ∀ {cs' : Array Value} {t : TypeId} {z : Nat × Nat} {b : Nat}, w.heap[b]? = some (.cells cs' t z) → 3 ≠ t → w1.heap[b]? = some (.cells cs' t z) := fun {cs' t z b} hb hne => (hg.block b (heap_lt hb) (hk2 hb hne)).trans hb
  have h1 := keep h.cell (by decide)
  have hms : Moved (fun j => (Value.slice As a.start.length cs).ownBlock = some j) w w1 := (Moved.refl _ w).grown hg (fun _ _ e => e)
  have hss := own_moved h.adv.k hms (fun j hj e => by
    rcases h.adv.k.2 with ⟨hv, _⟩ | ⟨b, cap, cur, hv, _, hb, _⟩
    · rw [hv] at hj; cases hj
    · rw [hv] at hj; cases hj
      exact own_ne h.adv.s hb (by decide) e)
  have mset : Moved (fun j => j = g) w1 (w1.setCell ⟨g, 0, none⟩ (.slice A' (a.start.length + 1) c')) := (Moved.refl (fun j => j = g) w1).setCell (.inr rfl) _
  refine ⟨⟨?_, own_moved hss mset (fun j hj e => ?_)⟩, ?_, ?_, ?_, h.g0, ?_⟩
  · have := own_moved ho mset (fun j hj e => by subst e; exact own_ne ho h1 (by decide) hj)
    rw [stV_snoc]
    simpa using this
  · subst e; exact own_ne hss h1 (by decide) hj
  · have := heap_set h1 0 (.slice A' (a.start.length + 1) c')
    simpa using this
  · rw [Below.heap_setCell _ _ _ _ (by have := h.g0; show w0.heap.size ≠ g; omega)]; exact keep h.job (by decide)
  · rw [Below.heap_setCell _ _ _ _ (by have := h.g0; show w0.heap.size + 1 ≠ g; omega)]; exact keep h.res (by decide)
  · have hb1 := h.below.grown hg h.below.size (fun j hj => (h.adv.s.lt j hj).1)
    exact ⟨hb1.os, hb1.tape, hb1.output, by simpa using hb1.size, fun j hj => by
      rw [Below.heap_setCell _ _ _ _ (by have := h.g0; show j ≠ g; omega)]; exact hb1.block j hj⟩

theorem Mid.cellK {w0 w w1 : World} {C : Array Value} {g cs ck : Nat} {As Ak : Option Addr} {a : Adv} (h : Mid w0 w C g As cs Ak ck a) (hg : w.grownBy w1 (Value.slice Ak a.skip.length ck).ownBlock) : w1.heap[g]? = some (.cells #[.slice As a.start.length cs, .slice Ak a.skip.length ck] 34 (0, 0)) :=
  (hg.block g (heap_lt h.cell) (fun e => own_ne h.adv.k h.cell (by decide) e.symm)).trans h.cell
theorem Mid.cellS {w0 w w1 : World} {C : Array Value} {g cs ck : Nat} {As Ak : Option Addr} {a : Adv} (h : Mid w0 w C g As cs Ak ck a) (hg : w.grownBy w1 (Value.slice As a.start.length cs).ownBlock) : w1.heap[g]? = some (.cells #[.slice As a.start.length cs, .slice Ak a.skip.length ck] 34 (0, 0)) :=
  (hg.block g (heap_lt h.cell) (fun e => own_ne h.adv.s h.cell (by decide) e.symm)).trans h.cell
theorem news_new (w : World) (xs : List Value) (t : TypeId) : ∃ ad, some (⟨w.heap.size, 0, none⟩ : Addr) = some ad ∧ ∀ j u, xs[j]? = some u → (w.alloc (.cells xs.toArray t)).cell? (ad.add j) = some u :=
  ⟨_, rfl, fun j u hu => by rw [Addr.add_mid, Nat.zero_add, cell_new]; simpa using hu⟩
set_option maxHeartbeats 8000000 in
set_option maxRecDepth 20000 in
theorem advise_any (C : Array Value) (fai par : Int) (hJ : JA C fai par) (A : Option Addr) (l : List Stp) (c : Nat) (now : Int) (w : World) (hS : Stps w A l) (hm : l.length ≤ 1000000) (hw : WvOk l) :
    Calls Try.prog 10 #[.agg C, .slice A l.length c, .int .i64 now] w (AdvPost (advR fai par l now) w) := by
  have hm' : (l.length : Int) ≤ 1000000 := by omega
  obtain ⟨ii, hi, hi0, hi1, hi2⟩ := infoI
  obtain ⟨ik, hk, hk0, hk1, hk2⟩ := infoK
  have HOp := fun z (h : Least (shutC fai l) (ThereW l) z) (x : Int) (hx : I64 x) => open_of h hx
  have HHa := fun z (h : Least (haltC fai l) (ThereW l) z) (x : Int) (hx : I64 x) => halt_of h hx
  have HBd : Hid (Calls Try.prog 19 #[.agg C, .slice A l.length c] ((w.alloc (.cells C 27)).alloc (.cells #[.slice none 0 0, .slice none 0 0] 34)) fun e w1 => ∃ sh ha, e = .returned (.tuple #[.int .i64 sh, .int .i64 ha]) ∧ (∀ x, I64 x → decide (x ≤ sh) = openB fai l x) ∧ (∀ x, I64 x → decide (ha < x) = haltB fai l x) ∧
      w1.heap[w.heap.size]? = some (.cells C 27 (0, 0)) ∧ w1.heap[w.heap.size + 1]? = some (.cells #[.slice none 0 0, .slice none 0 0] 34 (0, 0)) ∧ Below w.heap.size w w1) := Lib.hid ((bounds_any C fai par hJ A l c _ (hS.later ((below_alloc w (.cells C 27)).alloc (by simp) (.cells #[.slice none 0 0, .slice none 0 0] 34))) (by omega) hw).mono fun e w1 ⟨sh, ha, he, hl1, hl2, hb1⟩ => by
    refine ⟨sh, ha, he, HOp _ hl1, HHa _ hl2, ?_, ?_, ?_⟩
    · exact (hb1.block w.heap.size (by simp; omega)).trans (heap_old _ (by simp) (heap_new w (.cells C 27)))
    · refine (hb1.block (w.heap.size + 1) (by simp)).trans ?_
      have := heap_new (w.alloc (.cells C 27)) (.cells #[.slice none 0 0, .slice none 0 0] 34)
      simpa using this
    · exact ((below_alloc w (.cells C 27)).alloc (by simp) (.cells #[.slice none 0 0, .slice none 0 0] 34)).trans (hb1.mono (by simp; omega)))
  have HC : Hid (∀ V b, Below w.heap.size w V → Fnv.In V (.st b 2) → Calls Try.prog 20 #[.slice A l.length c, .slice (some ⟨V.heap.size, 0, none⟩) 1 1] (V.alloc (.cells #[.func (.func 33) #[] #[.pointer (some ⟨b, 0, none⟩)]] 54)) fun e w' => e = .returned (.int .i64 (cnt (isS 2) l : Nat)) ∧ Below V.heap.size V w') := Lib.hid (fun V b hV hin => (count_any A l c (some ⟨V.heap.size, 0, none⟩) [.st b 2] 1 _ (hS.later (hV.alloc hV.size _)) (by omega) (fns_one V (.st b 2) 54 hin) (by simp [maxLen])).mono fun e w' ⟨he, hb⟩ => ⟨by rw [he, isS_all], (below_alloc V _).trans (hb.mono (by simp))⟩)
  have HRm := Lib.hid (fun on V => isRoom_any C fai par hJ on V)
  have hszJ : (Try.prog.info? 27).map (·.size) = some C.size := by rw [hJ.size]; exact szJb
  have HS := Lib.hid hS
  have HW := Lib.hid hw
  have HSt : Hid (∀ on k (hk : k < l.length), advK fai par l now on (k + 1) = stepAdv fai par l now on (advK fai par l now on k) k l[k]) := Lib.hid (fun on k hk => by
    show stepAdv fai par l now on _ k (l.getD k default) = _
    rw [List.getD_eq_getElem?_getD, List.getElem?_eq_getElem hk]; rfl)
  have HLn := Lib.hid (adv_len fai par l now)
  have HR : Hid (advR fai par l now = advK fai par l now (cnt (isS 2) l : Nat) l.length) := Lib.hid rfl
  have hcl : (cnt (isS 2) l : Int) ≤ 1000000 := by have := cnt_le (isS 2) l; omega
  rw [HR.out]
  generalize cnt (isS 2) l = on at *
  clear hJ hS hw HR HOp HHa
  go_enter Try.func10, Try.ntmps10
  go_wp2_with (first
    | (refine wpList_load_row rfl 27 (.tmp 3) rfl w.heap.size rfl 27 C (0, 0) _ (heap_old _ (by simp) (heap_new w _)) Try.underlying27 rfl hszJ ?_)
    | (go_at_call 19; refine HBd.out.mono ?_; rintro e w1 ⟨sh, ha, rfl, hsh, hha, hj1, hr1, hb1⟩; have HSh := Lib.hid hsh; have HHl := Lib.hid hha; have HJ1 := Lib.hid hj1; have HR1 := Lib.hid hr1; have HB1 := Lib.hid hb1; clear hsh hha hj1 hr1 hb1)
    | (go_at_call 21; refine (is_any _ _).mono ?_; rintro e w2 ⟨rfl, hin2, hb2⟩; have HB2 := Lib.hid hb2; have HG2 : Hid (Below w.heap.size w w2) := Lib.hid (HB1.out.trans (hb2.mono HB1.out.size)); clear hb2)
    | (go_at_call 20; refine (HC.out w2 _ HG2.out hin2).mono ?_; rintro e w3 ⟨rfl, hb3⟩; have HB3 : Hid (Below w1.heap.size w1 w3) := Lib.hid (HB2.out.trans (hb3.mono HB2.out.size)); clear hb3)
    | go_in)

  obtain ⟨g, hg⟩ : ∃ g, g = w3.heap.size := ⟨_, rfl⟩
  have HM0 : Hid (Mid w (w3.alloc (.cells #[.slice none 0 0, .slice none 0 0] 34)) C g none 0 none 0 ⟨[], []⟩) := Lib.hid (by
    have hb13 : Below w1.heap.size w1 (w3.alloc (.cells #[.slice none 0 0, .slice none 0 0] 34)) := HB3.out.alloc HB3.out.size _
    have z1 : w.heap.size + 1 < w1.heap.size := heap_lt HR1.out
    refine ⟨⟨World.ownsRow_nil _ _ _ _, World.ownsRow_nil _ _ _ _⟩, ?_, ?_, ?_, ?_, ?_⟩
    · rw [hg]; exact heap_new _ _
    · exact (hb13.block _ (by omega)).trans HJ1.out
    · exact (hb13.block _ z1).trans HR1.out
    · rw [hg]; exact Nat.lt_of_lt_of_le z1 HB3.out.size
    · exact HB1.out.trans (hb13.mono HB1.out.size))
  rw [← hg]
  clear hg HB1 HB2 HB3 HG2 HJ1 HR1 hin2
  go_loopw [25] (fun iv wr => ∃ (k : Nat) (As : Option Addr) (cs : Nat) (Ak : Option Addr) (ck : Nat), k ≤ l.length ∧ iv = .int .i64 (k : Int) ∧ Hid (Mid w wr C g As cs Ak ck (advK fai par l now on k))) (fun iv _ => l.length - (intOf iv).toNat)
  case atStart => exact ⟨0, none, 0, none, 0, Nat.zero_le _, rfl, HM0⟩
  case round =>
    obtain ⟨k, As, cs, Ak, ck, hkl, rfl, HM⟩ := hrel
    have hlen := HLn.out on k
    by_cases hlt : k < l.length
    · have hlt' : (k : Int) < (l.length : Int) := by omega
      have hk00 : (0 : Int) ≤ (k : Int) := by omega
      obtain ⟨b, o, rfl, hr⟩ := (HS.out.later HM.out.below) k hlt
      have hO := stC_one l[k]
      have HRr := Lib.hid hr
      have hzC := stC_size l[k]
      have hL : Hid ((stC l[k]).toArray[4]? = some (.int .i64 l[k].at_) ∧ (stC l[k]).toArray[5]? = some (.int .i64 l[k].un) ∧ (stC l[k]).toArray[6]? = some (.int .i64 l[k].wv) ∧ (stC l[k]).toArray[7]? = some (.int .i64 l[k].st)) := Lib.hid ⟨rfl, rfl, rfl, rfl⟩
      have HStk := Lib.hid (HSt.out on k hlt)
      have hop := HSh.out l[k].wv (HW.out.at_ hlt)
      have hha := HHl.out l[k].wv (HW.out.at_ hlt)
      clear hr
      generalize advK fai par l now on k = a at *
      generalize l[k] = s at *
      obtain ⟨L, hLL⟩ : ∃ L, L = stC s := ⟨_, rfl⟩
      rw [← hLL] at hO hzC HRr hL
      have hszC : (Try.prog.info? 41).map (·.size) = some L.length := by rw [hzC]; exact szSt
      have hszA : (Try.prog.info? 41).map (·.size) = some L.toArray.size := by rw [List.size_toArray]; exact hszC
      have hsz1 : zSt.size = L.toArray.size := by rw [List.size_toArray]; exact hzC.symm
      clear hLL
      obtain ⟨job, occ, host, ver, at_, un, wv, st, out, rs⟩ := s
      simp only at HStk hop hha hL
      cases hst : (st == 1)
      · have HV : Hid (advK fai par l now on (k + 1) = a) := Lib.hid (by rw [HStk.out]; unfold stepAdv; rw [if_pos hst])
        have hst2 : (st != 1) = true := by unfold bne; rw [hst]; rfl
        go_wp2_with (first
          | (refine wpList_load_mid rfl 41 (.tmp 28) rfl b (o + k * 10) rfl L _ HRr.out Try.underlying41 rfl hszC ?_)
          | (refine wpList_store_new rfl 41 (.tmp 12) (.tmp 29) rfl wr.heap.size L.toArray rfl rfl 41 zSt (heap_new wr _) hszA hsz1 hO ?_; intro w5 hs5 hb5 hg5 ho5; have HM5 := Lib.hid (HM.out.later (hb5 wr.heap.size wr (below_alloc wr _) (Nat.le_refl _))); have e4 := (cell_of_row w5 wr.heap.size 4 _ _ _ hg5).trans hL.out.1; have e5 := (cell_of_row w5 wr.heap.size 5 _ _ _ hg5).trans hL.out.2.1; have e6 := (cell_of_row w5 wr.heap.size 6 _ _ _ hg5).trans hL.out.2.2.1; have e7 := (cell_of_row w5 wr.heap.size 7 _ _ _ hg5).trans hL.out.2.2.2; have d0 := cell_of_row w5 g 0 _ _ _ HM5.out.cell; have d1 := cell_of_row w5 g 1 _ _ _ HM5.out.cell; simp only [List.getElem?_toArray, List.getElem?_cons_zero, List.getElem?_cons_succ] at d0 d1; have hz5 : g < w5.heap.size := heap_lt HM5.out.cell; clear hs5 hb5 ho5 hg5)
          | go_in)
        go_roundw
        case rel => exact ⟨k + 1, As, cs, Ak, ck, by omega, by go_num, Lib.hid (by rw [HV.out]; exact HM5.out)⟩
        case measure => simp [intOf]; omega
      · have hst2 : (st != 1) = false := by unfold bne; rw [hst]; rfl
        have HS1 : Hid (advK fai par l now on (k + 1) = if un ≤ now then ⟨a.start, a.skip ++ [(k, 3)]⟩ else if haltB fai l wv = true then ⟨a.start, a.skip ++ [(k, 5)]⟩ else if (openB fai l wv && decide (at_ ≤ now) && roomB par (on + (a.start.length : Nat))) = true then ⟨a.start ++ [k], a.skip⟩ else a) := Lib.hid (by rw [HStk.out]; unfold stepAdv; rw [if_neg (by simp [hst])])
        clear HStk
        by_cases hun : un ≤ now
        · have HV : Hid (advK fai par l now on (k + 1) = ⟨a.start, a.skip ++ [(k, 3)]⟩) := Lib.hid (by rw [HS1.out, if_pos hun])
          go_wp2_with (first
            | (refine wpList_load_mid rfl 41 (.tmp 28) rfl b (o + k * 10) rfl L _ HRr.out Try.underlying41 rfl hszC ?_)
            | (refine wpList_store_new rfl 41 (.tmp 12) (.tmp 29) rfl wr.heap.size L.toArray rfl rfl 41 zSt (heap_new wr _) hszA hsz1 hO ?_; intro w5 hs5 hb5 hg5 ho5; have HM5 := Lib.hid (HM.out.later (hb5 wr.heap.size wr (below_alloc wr _) (Nat.le_refl _))); have e4 := (cell_of_row w5 wr.heap.size 4 _ _ _ hg5).trans hL.out.1; have e5 := (cell_of_row w5 wr.heap.size 5 _ _ _ hg5).trans hL.out.2.1; have e6 := (cell_of_row w5 wr.heap.size 6 _ _ _ hg5).trans hL.out.2.2.1; have e7 := (cell_of_row w5 wr.heap.size 7 _ _ _ hg5).trans hL.out.2.2.2; have d0 := cell_of_row w5 g 0 _ _ _ HM5.out.cell; have d1 := cell_of_row w5 g 1 _ _ _ HM5.out.cell; simp only [List.getElem?_toArray, List.getElem?_cons_zero, List.getElem?_cons_succ] at d0 d1; have hz5 : g < w5.heap.size := heap_lt HM5.out.cell; clear hs5 hb5 ho5 hg5)
            | (at_builtin; refine wpList_append_k _ rfl (.tmp 41) (.tmp 44) 32 rfl 48 ik _ 2 16 Try.underlying32 hk hk0 hk1 hk2 rfl (by decide) w.heap.size _ a.skip.length (skV a.skip) rfl (HM5.out.later (below_alloc w5 (.cells #[.int .i64 (k : Int), .int .i64 3] 48))).adv.k (some ⟨w5.heap.size, 0, none⟩) 1 1 [.int .i64 (k : Int), .int .i64 3] rfl rfl (fun _ => news_new w5 _ _) (by intro u hu; simp at hu; rcases hu with rfl | rfl <;> rfl) (by unfold maxLen; omega) (by omega) (HM5.out.later (below_alloc w5 _)).below.size ?_; intro A' c' w6 ho6 hg6 hn6; have h6 := (HM5.out.later (below_alloc w5 (.cells #[.int .i64 (k : Int), .int .i64 3] 48))).cellK hg6; obtain ⟨k6, f6⟩ := cells_of_heap h6; have k61 := k6 1; have f61 := f6 1; clear k6 f6 h6; have HN := Lib.hid ((HM5.out.later (below_alloc w5 (.cells #[.int .i64 (k : Int), .int .i64 3] 48))).skip ho6 hg6 hn6); clear ho6 hg6 hn6)
            | go_in)
          go_roundw
          case rel => exact ⟨k + 1, As, cs, A', c', by omega, by go_num, Lib.hid (by rw [HV.out]; exact HN.out)⟩
          case measure => simp [intOf]; omega
        · by_cases hh : ha < wv
          · have HV : Hid (advK fai par l now on (k + 1) = ⟨a.start, a.skip ++ [(k, 5)]⟩) := Lib.hid (by rw [HS1.out, if_neg hun, if_pos (by rw [← hha]; simp [hh])])
            go_wp2_with (first
              | (refine wpList_load_mid rfl 41 (.tmp 28) rfl b (o + k * 10) rfl L _ HRr.out Try.underlying41 rfl hszC ?_)
              | (refine wpList_store_new rfl 41 (.tmp 12) (.tmp 29) rfl wr.heap.size L.toArray rfl rfl 41 zSt (heap_new wr _) hszA hsz1 hO ?_; intro w5 hs5 hb5 hg5 ho5; have HM5 := Lib.hid (HM.out.later (hb5 wr.heap.size wr (below_alloc wr _) (Nat.le_refl _))); have e4 := (cell_of_row w5 wr.heap.size 4 _ _ _ hg5).trans hL.out.1; have e5 := (cell_of_row w5 wr.heap.size 5 _ _ _ hg5).trans hL.out.2.1; have e6 := (cell_of_row w5 wr.heap.size 6 _ _ _ hg5).trans hL.out.2.2.1; have e7 := (cell_of_row w5 wr.heap.size 7 _ _ _ hg5).trans hL.out.2.2.2; have d0 := cell_of_row w5 g 0 _ _ _ HM5.out.cell; have d1 := cell_of_row w5 g 1 _ _ _ HM5.out.cell; simp only [List.getElem?_toArray, List.getElem?_cons_zero, List.getElem?_cons_succ] at d0 d1; have hz5 : g < w5.heap.size := heap_lt HM5.out.cell; clear hs5 hb5 ho5 hg5)
              | (at_builtin; refine wpList_append_k _ rfl (.tmp 54) (.tmp 57) 32 rfl 48 ik _ 2 16 Try.underlying32 hk hk0 hk1 hk2 rfl (by decide) w.heap.size _ a.skip.length (skV a.skip) rfl (HM5.out.later (below_alloc w5 (.cells #[.int .i64 (k : Int), .int .i64 5] 48))).adv.k (some ⟨w5.heap.size, 0, none⟩) 1 1 [.int .i64 (k : Int), .int .i64 5] rfl rfl (fun _ => news_new w5 _ _) (by intro u hu; simp at hu; rcases hu with rfl | rfl <;> rfl) (by unfold maxLen; omega) (by omega) (HM5.out.later (below_alloc w5 _)).below.size ?_; intro A' c' w6 ho6 hg6 hn6; have h6 := (HM5.out.later (below_alloc w5 (.cells #[.int .i64 (k : Int), .int .i64 5] 48))).cellK hg6; obtain ⟨k6, f6⟩ := cells_of_heap h6; have k61 := k6 1; have f61 := f6 1; clear k6 f6 h6; have HN := Lib.hid ((HM5.out.later (below_alloc w5 (.cells #[.int .i64 (k : Int), .int .i64 5] 48))).skip ho6 hg6 hn6); clear ho6 hg6 hn6)
              | go_in)
            go_roundw
            case rel => exact ⟨k + 1, As, cs, A', c', by omega, by go_num, Lib.hid (by rw [HV.out]; exact HN.out)⟩
            case measure => simp [intOf]; omega
          · have HS2 : Hid (advK fai par l now on (k + 1) = if (openB fai l wv && decide (at_ ≤ now) && roomB par (on + (a.start.length : Nat))) = true then ⟨a.start ++ [k], a.skip⟩ else a) := Lib.hid (by rw [HS1.out, if_neg hun, if_neg (by rw [← hha]; simp [hh])])
            clear HS1
            by_cases hsw : wv ≤ sh
            · have hop2 : openB fai l wv = true := by rw [← hop]; simp [hsw]
              by_cases hat : at_ ≤ now
              · cases hrm : roomB par (on + (a.start.length : Nat))
                · have HV : Hid (advK fai par l now on (k + 1) = a) := Lib.hid (by rw [HS2.out, hrm, if_neg (by simp)])
                  go_wp2_with (first
                    | (refine wpList_load_mid rfl 41 (.tmp 28) rfl b (o + k * 10) rfl L _ HRr.out Try.underlying41 rfl hszC ?_)
                    | (refine wpList_store_new rfl 41 (.tmp 12) (.tmp 29) rfl wr.heap.size L.toArray rfl rfl 41 zSt (heap_new wr _) hszA hsz1 hO ?_; intro w5 hs5 hb5 hg5 ho5; have HM5 := Lib.hid (HM.out.later (hb5 wr.heap.size wr (below_alloc wr _) (Nat.le_refl _))); have e4 := (cell_of_row w5 wr.heap.size 4 _ _ _ hg5).trans hL.out.1; have e5 := (cell_of_row w5 wr.heap.size 5 _ _ _ hg5).trans hL.out.2.1; have e6 := (cell_of_row w5 wr.heap.size 6 _ _ _ hg5).trans hL.out.2.2.1; have e7 := (cell_of_row w5 wr.heap.size 7 _ _ _ hg5).trans hL.out.2.2.2; have d0 := cell_of_row w5 g 0 _ _ _ HM5.out.cell; have d1 := cell_of_row w5 g 1 _ _ _ HM5.out.cell; simp only [List.getElem?_toArray, List.getElem?_cons_zero, List.getElem?_cons_succ] at d0 d1; have hz5 : g < w5.heap.size := heap_lt HM5.out.cell; clear hs5 hb5 ho5 hg5)
                    | (refine wpList_wanted (by kernel_rfl) (fun K hK => ?_); refine wp_load_row 27 (.tmp 3) rfl w.heap.size rfl 27 C (0, 0) _ HM5.out.job Try.underlying27 rfl hszJ ?_; refine hK _ _ ?_)
                    | (go_at_call 22; refine (HRm.out _ _).mono ?_; rintro e w6 ⟨rfl, hb6⟩; have HM6 := Lib.hid (HM5.out.later hb6); have d60 := cell_of_row w6 g 0 _ _ _ HM6.out.cell; simp only [List.getElem?_toArray, List.getElem?_cons_zero, List.getElem?_cons_succ] at d60; clear hb6)
                    | go_in)
                  go_roundw
                  case rel => exact ⟨k + 1, As, cs, Ak, ck, by omega, by go_num, Lib.hid (by rw [HV.out]; exact HM6.out)⟩
                  case measure => simp [intOf]; omega
                · have HV : Hid (advK fai par l now on (k + 1) = ⟨a.start ++ [k], a.skip⟩) := Lib.hid (by rw [HS2.out, hrm, hop2, if_pos (by simp [hat])])
                  go_wp2_with (first
                    | (refine wpList_load_mid rfl 41 (.tmp 28) rfl b (o + k * 10) rfl L _ HRr.out Try.underlying41 rfl hszC ?_)
                    | (refine wpList_store_new rfl 41 (.tmp 12) (.tmp 29) rfl wr.heap.size L.toArray rfl rfl 41 zSt (heap_new wr _) hszA hsz1 hO ?_; intro w5 hs5 hb5 hg5 ho5; have HM5 := Lib.hid (HM.out.later (hb5 wr.heap.size wr (below_alloc wr _) (Nat.le_refl _))); have e4 := (cell_of_row w5 wr.heap.size 4 _ _ _ hg5).trans hL.out.1; have e5 := (cell_of_row w5 wr.heap.size 5 _ _ _ hg5).trans hL.out.2.1; have e6 := (cell_of_row w5 wr.heap.size 6 _ _ _ hg5).trans hL.out.2.2.1; have e7 := (cell_of_row w5 wr.heap.size 7 _ _ _ hg5).trans hL.out.2.2.2; have d0 := cell_of_row w5 g 0 _ _ _ HM5.out.cell; have d1 := cell_of_row w5 g 1 _ _ _ HM5.out.cell; simp only [List.getElem?_toArray, List.getElem?_cons_zero, List.getElem?_cons_succ] at d0 d1; have hz5 : g < w5.heap.size := heap_lt HM5.out.cell; clear hs5 hb5 ho5 hg5)
                    | (refine wpList_wanted (by kernel_rfl) (fun K hK => ?_); refine wp_load_row 27 (.tmp 3) rfl w.heap.size rfl 27 C (0, 0) _ HM5.out.job Try.underlying27 rfl hszJ ?_; refine hK _ _ ?_)
                    | (go_at_call 22; refine (HRm.out _ _).mono ?_; rintro e w6 ⟨rfl, hb6⟩; have HM6 := Lib.hid (HM5.out.later hb6); have d60 := cell_of_row w6 g 0 _ _ _ HM6.out.cell; simp only [List.getElem?_toArray, List.getElem?_cons_zero, List.getElem?_cons_succ] at d60; clear hb6)
                    | (at_builtin; refine wpList_append_k _ rfl (.tmp 83) (.tmp 85) 31 rfl 3 ii _ 1 8 Try.underlying31 hi hi0 hi1 hi2 rfl (by decide) w.heap.size _ a.start.length (stV a.start) rfl (HM6.out.later (below_alloc w6 (.cells #[.int .i64 (k : Int)] 3))).adv.s (some ⟨w6.heap.size, 0, none⟩) 1 1 [.int .i64 (k : Int)] rfl rfl (fun _ => news_new w6 _ _) (by intro u hu; simp at hu; subst hu; rfl) (by unfold maxLen; omega) (by omega) (HM6.out.later (below_alloc w6 _)).below.size ?_; intro A' c' w7 ho7 hg7 hn7; have h7 := (HM6.out.later (below_alloc w6 (.cells #[.int .i64 (k : Int)] 3))).cellS hg7; obtain ⟨k7, f7⟩ := cells_of_heap h7; have k70 := k7 0; have f70 := f7 0; clear k7 f7 h7; have HN := Lib.hid ((HM6.out.later (below_alloc w6 (.cells #[.int .i64 (k : Int)] 3))).start ho7 hg7 hn7); clear ho7 hg7 hn7)
                    | go_in)
                  go_roundw
                  case rel => exact ⟨k + 1, A', c', Ak, ck, by omega, by go_num, Lib.hid (by rw [HV.out]; exact HN.out)⟩
                  case measure => simp [intOf]; omega
              · have HV : Hid (advK fai par l now on (k + 1) = a) := Lib.hid (by rw [HS2.out, if_neg (by simp [hat])])
                go_wp2_with (first
                  | (refine wpList_load_mid rfl 41 (.tmp 28) rfl b (o + k * 10) rfl L _ HRr.out Try.underlying41 rfl hszC ?_)
                  | (refine wpList_store_new rfl 41 (.tmp 12) (.tmp 29) rfl wr.heap.size L.toArray rfl rfl 41 zSt (heap_new wr _) hszA hsz1 hO ?_; intro w5 hs5 hb5 hg5 ho5; have HM5 := Lib.hid (HM.out.later (hb5 wr.heap.size wr (below_alloc wr _) (Nat.le_refl _))); have e4 := (cell_of_row w5 wr.heap.size 4 _ _ _ hg5).trans hL.out.1; have e5 := (cell_of_row w5 wr.heap.size 5 _ _ _ hg5).trans hL.out.2.1; have e6 := (cell_of_row w5 wr.heap.size 6 _ _ _ hg5).trans hL.out.2.2.1; have e7 := (cell_of_row w5 wr.heap.size 7 _ _ _ hg5).trans hL.out.2.2.2; have d0 := cell_of_row w5 g 0 _ _ _ HM5.out.cell; have d1 := cell_of_row w5 g 1 _ _ _ HM5.out.cell; simp only [List.getElem?_toArray, List.getElem?_cons_zero, List.getElem?_cons_succ] at d0 d1; have hz5 : g < w5.heap.size := heap_lt HM5.out.cell; clear hs5 hb5 ho5 hg5)
                  | go_in)
                go_roundw
                case rel => exact ⟨k + 1, As, cs, Ak, ck, by omega, by go_num, Lib.hid (by rw [HV.out]; exact HM5.out)⟩
                case measure => simp [intOf]; omega
            · have hop2 : openB fai l wv = false := by rw [← hop]; simp [hsw]
              have HV : Hid (advK fai par l now on (k + 1) = a) := Lib.hid (by rw [HS2.out, hop2, if_neg (by simp)])
              go_wp2_with (first
                | (refine wpList_load_mid rfl 41 (.tmp 28) rfl b (o + k * 10) rfl L _ HRr.out Try.underlying41 rfl hszC ?_)
                | (refine wpList_store_new rfl 41 (.tmp 12) (.tmp 29) rfl wr.heap.size L.toArray rfl rfl 41 zSt (heap_new wr _) hszA hsz1 hO ?_; intro w5 hs5 hb5 hg5 ho5; have HM5 := Lib.hid (HM.out.later (hb5 wr.heap.size wr (below_alloc wr _) (Nat.le_refl _))); have e4 := (cell_of_row w5 wr.heap.size 4 _ _ _ hg5).trans hL.out.1; have e5 := (cell_of_row w5 wr.heap.size 5 _ _ _ hg5).trans hL.out.2.1; have e6 := (cell_of_row w5 wr.heap.size 6 _ _ _ hg5).trans hL.out.2.2.1; have e7 := (cell_of_row w5 wr.heap.size 7 _ _ _ hg5).trans hL.out.2.2.2; have d0 := cell_of_row w5 g 0 _ _ _ HM5.out.cell; have d1 := cell_of_row w5 g 1 _ _ _ HM5.out.cell; simp only [List.getElem?_toArray, List.getElem?_cons_zero, List.getElem?_cons_succ] at d0 d1; have hz5 : g < w5.heap.size := heap_lt HM5.out.cell; clear hs5 hb5 ho5 hg5)
                | go_in)
              go_roundw
              case rel => exact ⟨k + 1, As, cs, Ak, ck, by omega, by go_num, Lib.hid (by rw [HV.out]; exact HM5.out)⟩
              case measure => simp [intOf]; omega
    · obtain rfl : k = l.length := by omega
      clear hlt
      have d0 := cell_of_row wr g 0 _ _ _ HM.out.cell
      have d1 := cell_of_row wr g 1 _ _ _ HM.out.cell
      have q0 := cell_of_row wr (w.heap.size + 1) 0 _ _ _ HM.out.res
      have q1 := cell_of_row wr (w.heap.size + 1) 1 _ _ _ HM.out.res
      simp only [List.getElem?_toArray, List.getElem?_cons_zero, List.getElem?_cons_succ] at d0 d1 q0 q1
      generalize advK fai par l now on l.length = a at *
      have hadv := HM.out.adv
      have hcell := HM.out.cell
      have hres := HM.out.res
      have hbel := HM.out.below
      have hgg := HM.out.g0
      go_wp2_with (first
        | (refine wpList_load_row rfl 34 (.tmp 10) rfl g rfl 34 _ (0, 0) _ hcell Try.underlying34 rfl szAd ?_)
        | (refine wpList_store_new rfl 34 (.tmp 6) (.tmp 89) rfl (w.heap.size + 1) #[.slice As a.start.length cs, .slice Ak a.skip.length ck] rfl rfl 34 #[.slice none 0 0, .slice none 0 0] hres szAd rfl rfl ?_; intro w8 hs8 hb8 hg8 ho8)
        | go_in)
      refine bodyPost_ret (results_cell_row rfl _ _ (w.heap.size + 1) 34 _ (0, 0) _ rfl hg8 Try.underlying34 rfl szAd) rfl ?_
      have hmv : Moved (fun j => j = w.heap.size + 1) wr w8 := ⟨(hb8 0 wr (Below.refl _ _) (Nat.zero_le _)).os, (hb8 0 wr (Below.refl _ _) (Nat.zero_le _)).tape, (hb8 0 wr (Below.refl _ _) (Nat.zero_le _)).output, by omega, fun j _ hj => ho8 j hj⟩
      exact ⟨As, cs, Ak, ck, rfl, ⟨own_moved hadv.s hmv (fun j hj e => by subst e; exact own_ne hadv.s hres (by decide) hj), own_moved hadv.k hmv (fun j hj e => by subst e; exact own_ne hadv.k hres (by decide) hj)⟩, hb8 w.heap.size w hbel (by omega)⟩
end Go.Proofs.Ytcbnankocjlobaa
