/- Package queue: Fork. -/
import Derived.Test.YtllkallodgbpmaaQueV
set_option linter.unusedSimpArgs false
set_option linter.unusedVariables false
namespace Go.Proofs.Ytllkallodgbpmaa
open Go.ChangeShapes Go.WideShapes Go.ChangeAt Go.RowKit Go.Base Go.Que

section
variable {w w' : World} {F G : Nat → Prop} {q c mb n N m : Nat} {A : Option Addr} {D : DataW Unit} {f : Nat → Tm} {turns : Int}
def ForkPost (f : Nat → Tm) (n : Nat) (turns : Int) (w : World) (e : Ending) (w' : World) : Prop := ∃ q', e = .returned (.pointer (some ⟨q', 0, none⟩)) ∧ Que w' (fun k => w.heap.size ≤ k) q' f n turns ∧ Below w.heap.size w w'
/-- What the copies are. -/
def Copies (w : World) (n : Nat) (xs : List Value) (D : DataW Unit) (A' : Option Addr) (c' mbn : Nat) (V : World) : Prop :=
  V.ownsRow w.heap.size 61 3 (.slice A' n c') n xs ∧ V.ownsMap Try.prog 3 (plainElem Try.prog 3) mbn (Maps.size D) D ∧ w.heap.size ≤ mbn ∧ Below w.heap.size w V
theorem Copies.later {xs : List Value} {A' : Option Addr} {c' mbn : Nat} {V V' : World} (h : Copies w n xs D A' c' mbn V) (hb : Below V.heap.size V V') : Copies w n xs D A' c' mbn V' :=
  ⟨own_moved (p := fun _ => False) h.1 (Below.movedNew hb) (fun _ _ h => h), own_map_moved (q := fun _ => False) h.2.1 (Below.movedNew hb) (fun h => h), h.2.2.1, h.2.2.2.trans (hb.mono h.2.2.2.size)⟩
/-- Neither copy lies in a block of another type. -/
theorem Copies.put {xs : List Value} {A' : Option Addr} {c' mbn a : Nat} {V V' : World} (h : Copies w n xs D A' c' mbn V) (hm : Moved (fun k => k = a) V V') {cs : Array Value} {t : TypeId} {z : Nat × Nat} (ha : V.heap[a]? = some (.cells cs t z)) (ht : t ≠ 61) (hw : w.heap.size ≤ a) : Copies w n xs D A' c' mbn V' :=
  ⟨own_moved h.1 hm (fun k hk e => own_ne h.1 ha (fun e => ht e.symm) (by rw [hk, e])), own_map_moved h.2.1 hm (fun e => map_ne h.2.1 ha e.symm), h.2.2.1, h.2.2.2.trans (hm.below (fun k _ e => by omega) h.2.2.2.size)⟩
theorem own_wide2 {xs : List Value} {v : Value} {b b' : Nat} (h : w.ownsRow b 61 3 v n xs) (hb : b' ≤ b) : w.ownsRow b' 61 3 v n xs := by
  refine ⟨h.1, ?_⟩
  rcases h.2 with h0 | ⟨g, cap, cur, h1, h2, h3⟩
  · exact .inl h0
  · exact .inr ⟨g, cap, cur, h1, Nat.le_trans hb h2, h3⟩
set_option maxHeartbeats 4000000 in
set_option maxRecDepth 20000 in
theorem fork_any (h : Que w F q f n turns) : Calls Try.prog 17 #[.pointer (some ⟨q, 0, none⟩)] w (ForkPost f n turns w) := by
  have HC := Lib.hid (qclosed_any h)
  have hn := h.few
  obtain ⟨A, c, mb, D, h⟩ := h
  obtain ⟨xs, ho, ht⟩ := h.row.own
  have HCl : Hid (∀ V, Below w.heap.size w V → Calls Try.prog 27 #[.slice A n c] V (ClonePost n xs V)) := Lib.hid (fun V hV => rclone_any (own_moved (p := fun _ => False) ho (Below.movedNew hV) (fun _ _ h => h)) ht hn)
  have HMc : Hid (∀ V, Below w.heap.size w V → Calls Try.prog 28 #[.map (some mb)] V (MClonePost mb (Maps.size D) D V)) := Lib.hid (fun V hV => mclone_any (own_map_moved (q := fun _ => False) h.map (Below.movedNew hV) (fun h => h)))
  have HS : Hid (∀ V, Below w.heap.size w V → V.cell? ⟨q, 0, none⟩ = some (.slice A n c) ∧ V.cell? ⟨q, 1, none⟩ = some (.map (some mb)) ∧ V.cell? ⟨q, 2, none⟩ = some (.int .i64 turns)) := Lib.hid (fun V hV => ⟨cell_later hV h.cells.1, cell_later hV h.cells.2.1, cell_later hV h.cells.2.2⟩)
  have HT := Lib.hid ht
  have HPl := Lib.hid h.plc
  have HFit := Lib.hid h.fit
  have q0 := h.cells.1
  have q1 := h.cells.2.1
  have hq : q < w.heap.size := World.block_lt_of_cell? w _ q0
  clear h ho ht
  go_enter Try.func17, Try.ntmps17
  go_wp2_with (go_at_call 22; refine Calls.mono (by with_reducible exact HC.out) ?_; rintro e w1 ⟨rfl, rfl⟩)
  go_cut [3] from 4 to 18 (fun pv V => ∃ (a : Nat) (A' : Option Addr) (c' mbn : Nat), pv = .pointer (some ⟨a, 0, none⟩) ∧ Hid (V.heap[a]? = some (.cells #[.slice A' n c', .map (some mbn)] 55 (0, 0))) ∧ Hid (Copies w n xs D A' c' mbn V))
  case first =>
    refine wp_region_held_drew (S := (fun w' => Below w.heap.size w w')) (by kernel_rfl) (Below.refl _ _).drew (fun hHeld => ?_)
    refine wpAnyH_take (i := 0) (v := ?vv1) rfl (by kernel_rfl) (by kernel_rfl) (by kernel_rfl) (fun _ _ _ h => h) (Or.inl ⟨by rfl, ?hy1⟩) hHeld ?rr1
    case hy1 => (intro w' hSw; obtain ⟨g0, g1, g2⟩ := HS.out _ hSw; go_simp; try with_reducible rfl)
    try simp only [Act.put, List.setIfInBounds_toArray, List.set_cons_zero, List.set_cons_succ, List.getElem_toArray, List.getElem_cons_succ, List.getElem_cons_zero]
    refine wpAnyH_take (i := 1) (v := ?vv2) rfl (by kernel_rfl) (by kernel_rfl) (by kernel_rfl) (fun _ _ _ h => h) (Or.inl ⟨by rfl, ?hy2⟩) hHeld ?rr2
    case hy2 => (intro w' hSw; obtain ⟨g0, g1, g2⟩ := HS.out _ hSw; go_simp; try with_reducible rfl)
    try simp only [Act.put, List.setIfInBounds_toArray, List.set_cons_zero, List.set_cons_succ, List.getElem_toArray, List.getElem_cons_succ, List.getElem_cons_zero]
    refine wpAnyH_take (i := 2) (v := ?vv3) rfl (by kernel_rfl) (by kernel_rfl) (by kernel_rfl) (fun _ _ _ h => h) (Or.inl ⟨by rfl, ?hy3⟩) hHeld ?rr3
    case hy3 => (intro w' hSw; obtain ⟨g0, g1, g2⟩ := HS.out _ hSw; go_simp; try with_reducible rfl)
    try simp only [Act.put, List.setIfInBounds_toArray, List.set_cons_zero, List.set_cons_succ, List.getElem_toArray, List.getElem_cons_succ, List.getElem_cons_zero]
    refine wpAnyH_take (i := 3) (v := ?vv4) rfl (by kernel_rfl) (by kernel_rfl) (by kernel_rfl) (fun _ _ _ h => h) (Or.inl ⟨by rfl, ?hy4⟩) hHeld ?rr4
    case hy4 => (intro w' hSw; obtain ⟨g0, g1, g2⟩ := HS.out _ hSw; go_simp; try with_reducible rfl)
    try simp only [Act.put, List.setIfInBounds_toArray, List.set_cons_zero, List.set_cons_succ, List.getElem_toArray, List.getElem_cons_succ, List.getElem_cons_zero]
    refine wpAnyH_take (i := 4) (v := ?vv5) rfl (by kernel_rfl) (by kernel_rfl) (by kernel_rfl) (fun _ _ _ h => h) (Or.inl ⟨by rfl, ?hy5⟩) hHeld ?rr5
    case hy5 => (intro w' hSw; obtain ⟨g0, g1, g2⟩ := HS.out _ hSw; go_simp; try with_reducible rfl)
    try simp only [Act.put, List.setIfInBounds_toArray, List.set_cons_zero, List.set_cons_succ, List.getElem_toArray, List.getElem_cons_succ, List.getElem_cons_zero]
    refine wpAnyH_take (i := 6) (v := ?vv6) rfl (by kernel_rfl) (by kernel_rfl) (by kernel_rfl) (fun _ _ _ h => h) (Or.inl ⟨by rfl, ?hy6⟩) hHeld ?rr6
    case hy6 => (intro w' hSw; obtain ⟨g0, g1, g2⟩ := HS.out _ hSw; go_simp; try with_reducible rfl)
    try simp only [Act.put, List.setIfInBounds_toArray, List.set_cons_zero, List.set_cons_succ, List.getElem_toArray, List.getElem_cons_succ, List.getElem_cons_zero]
    refine wpAnyH_take (i := 7) (v := ?vv7) rfl (by kernel_rfl) (by kernel_rfl) (by kernel_rfl) (fun _ _ _ h => h) (Or.inl ⟨by rfl, ?hy7⟩) hHeld ?rr7
    case hy7 => (intro w' hSw; obtain ⟨g0, g1, g2⟩ := HS.out _ hSw; go_simp; try with_reducible rfl)
    try simp only [Act.put, List.setIfInBounds_toArray, List.set_cons_zero, List.set_cons_succ, List.getElem_toArray, List.getElem_cons_succ, List.getElem_cons_zero]
    refine wpAnyH_take (i := 8) (v := ?vv8) rfl (by kernel_rfl) (by kernel_rfl) (by kernel_rfl) (fun _ _ _ h => h) (Or.inl ⟨by rfl, ?hy8⟩) hHeld ?rr8
    case hy8 => (intro w' hSw; obtain ⟨g0, g1, g2⟩ := HS.out _ hSw; go_simp; try with_reducible rfl)
    try simp only [Act.put, List.setIfInBounds_toArray, List.set_cons_zero, List.set_cons_succ, List.getElem_toArray, List.getElem_cons_succ, List.getElem_cons_zero]
    refine wpAnyH_take (i := 9) (v := ?vv9) rfl (by kernel_rfl) (by kernel_rfl) (by kernel_rfl) (fun _ _ _ h => h) (Or.inl ⟨by rfl, ?hy9⟩) hHeld ?rr9
    case hy9 => (intro w' hSw; obtain ⟨g0, g1, g2⟩ := HS.out _ hSw; go_simp; try with_reducible rfl)
    try simp only [Act.put, List.setIfInBounds_toArray, List.set_cons_zero, List.set_cons_succ, List.getElem_toArray, List.getElem_cons_succ, List.getElem_cons_zero]
    refine wpAnyH_take (i := 10) (v := ?vv10) rfl (by kernel_rfl) (by kernel_rfl) (by kernel_rfl) (fun _ _ _ h => h) (Or.inl ⟨by rfl, ?hy10⟩) hHeld ?rr10
    case hy10 => (intro w' hSw; obtain ⟨g0, g1, g2⟩ := HS.out _ hSw; go_simp; try with_reducible rfl)
    try simp only [Act.put, List.setIfInBounds_toArray, List.set_cons_zero, List.set_cons_succ, List.getElem_toArray, List.getElem_cons_succ, List.getElem_cons_zero]
    refine wpAnyH_ready (rs := [5, 13]) (by kernel_rfl) (by simp) ?_
    refine AllReadyH.cons rfl (fun K hK => ?ra) (AllReadyH.cons rfl (fun K hK => ?rb) AllReadyH.nil)
    case ra =>
      try rw [if_pos (by rfl)]
      go_simp
      go_at_call 27
      refine Calls.mono (HCl.out _ (Below.refl w.heap.size w).drew) ?_
      rintro en w5 ⟨A5, c5, rfl, ho5, hb5⟩
      have HO5 := Lib.hid ho5
      have HB5 := Lib.hid hb5
      have HV5 : Hid (Below w.heap.size w w5) := Lib.hid (((Below.refl w.heap.size w).drew).trans (hb5.mono ((Below.refl w.heap.size w).drew).size))
      clear ho5 hb5
      go_wp2_with fail
      refine hK.out _ _ HV5.out (fun hHeld2 => ?_)
      clear hK K hHeld
      have hHeld := hHeld2
      clear hHeld2
      try simp only [Act.put, List.setIfInBounds_toArray, List.set_cons_zero, List.set_cons_succ, List.getElem_toArray, List.getElem_cons_succ, List.getElem_cons_zero]
      refine wpAnyH_ready (rs := [11, 13]) (by kernel_rfl) (by simp) ?_
      refine AllReadyH.cons rfl (fun K hK => ?rc) (AllReadyH.cons rfl (fun K hK => ?rd) AllReadyH.nil)
      case rc =>
        try rw [if_pos (by rfl)]
        go_simp
        go_at_call 28
        refine Calls.mono (HMc.out _ HV5.out) ?_
        rintro en w6 ⟨rfl, hm6, hb6⟩
        have HM6 := Lib.hid hm6
        have HB6 := Lib.hid hb6
        have HV6 : Hid (Below w.heap.size w w6) := Lib.hid ((HV5.out).trans (hb6.mono (HV5.out).size))
        clear hm6 hb6
        go_wp2_with fail
        refine hK.out _ _ HV6.out (fun hHeld2 => ?_)
        clear hK K hHeld
        have hHeld := hHeld2
        clear hHeld2
        try simp only [Act.put, List.setIfInBounds_toArray, List.set_cons_zero, List.set_cons_succ, List.getElem_toArray, List.getElem_cons_succ, List.getElem_cons_zero]
        refine wpAnyH_take (i := 12) (v := ?vv11) rfl (by kernel_rfl) (by kernel_rfl) (by kernel_rfl) (fun _ _ _ h => h) (Or.inl ⟨by rfl, ?hy11⟩) hHeld ?rr11
        case hy11 => (intro w' hSw; obtain ⟨g0, g1, g2⟩ := HS.out _ hSw; go_simp; try with_reducible rfl)
        try simp only [Act.put, List.setIfInBounds_toArray, List.set_cons_zero, List.set_cons_succ, List.getElem_toArray, List.getElem_cons_succ, List.getElem_cons_zero]
        refine wpAnyH_ready (rs := [13]) (by kernel_rfl) (by simp) ?_
        refine AllReadyH.cons rfl (fun K hK => ?_) AllReadyH.nil
        try rw [if_pos (by rfl)]
        go_simp
        refine hK.out _ _ (HV6.out.alloc HV6.out.size (.cells #[.slice none 0 0, .map none] 55)) (fun hHeld2 => ?_)
        clear hK K hHeld
        have hHeld := hHeld2
        clear hHeld2
        try simp only [Act.put, List.setIfInBounds_toArray, List.set_cons_zero, List.set_cons_succ, List.getElem_toArray, List.getElem_cons_succ, List.getElem_cons_zero]
        refine wpAnyH_ready (rs := [14]) (by kernel_rfl) (by simp) ?_
        refine AllReadyH.cons rfl (fun K hK => ?_) AllReadyH.nil
        try rw [if_pos (by rfl)]
        go_simp
        refine hK.out _ _ (by first | exact HV6.out.alloc HV6.out.size _ | exact ((HV6.out.alloc HV6.out.size _).setCell (by simpa using HV6.out.size) _).setCell (by simpa using HV6.out.size) _) (fun hHeld2 => ?_)
        clear hK K hHeld
        have hHeld := hHeld2
        clear hHeld2
        try simp only [Act.put, List.setIfInBounds_toArray, List.set_cons_zero, List.set_cons_succ, List.getElem_toArray, List.getElem_cons_succ, List.getElem_cons_zero]
        refine wpAnyH_done (by kernel_rfl) ?_ _
        clear hHeld
        go_wp2
        go_meet
        exact ⟨w6.heap.size, A5, c5, w5.heap.size, rfl, Lib.hid (heap_new w6 _), Lib.hid (Copies.later (V := w6) ⟨own_moved (p := fun _ => False) HO5.out (Below.movedNew HB6.out) (fun _ _ h => h), HM6.out, HV5.out.size, HV6.out⟩ (below_alloc _ _))⟩
      case rd =>
        try rw [if_pos (by rfl)]
        go_simp
        refine hK.out _ _ (HV5.out.alloc HV5.out.size (.cells #[.slice none 0 0, .map none] 55)) (fun hHeld2 => ?_)
        clear hK K hHeld
        have hHeld := hHeld2
        clear hHeld2
        try simp only [Act.put, List.setIfInBounds_toArray, List.set_cons_zero, List.set_cons_succ, List.getElem_toArray, List.getElem_cons_succ, List.getElem_cons_zero]
        refine wpAnyH_ready (rs := [11]) (by kernel_rfl) (by simp) ?_
        refine AllReadyH.cons rfl (fun K hK => ?_) AllReadyH.nil
        try rw [if_pos (by rfl)]
        go_simp
        go_at_call 28
        refine Calls.mono (HMc.out _ (HV5.out.alloc HV5.out.size (.cells #[.slice none 0 0, .map none] 55))) ?_
        rintro en w6 ⟨rfl, hm6, hb6⟩
        have HM6 := Lib.hid hm6
        have HB6 := Lib.hid hb6
        have HV6 : Hid (Below w.heap.size w w6) := Lib.hid (((HV5.out.alloc HV5.out.size (.cells #[.slice none 0 0, .map none] 55))).trans (hb6.mono ((HV5.out.alloc HV5.out.size (.cells #[.slice none 0 0, .map none] 55))).size))
        clear hm6 hb6
        go_wp2_with fail
        refine hK.out _ _ HV6.out (fun hHeld2 => ?_)
        clear hK K hHeld
        have hHeld := hHeld2
        clear hHeld2
        try simp only [Act.put, List.setIfInBounds_toArray, List.set_cons_zero, List.set_cons_succ, List.getElem_toArray, List.getElem_cons_succ, List.getElem_cons_zero]
        have hk : w6.heap[w5.heap.size]? = some (.cells #[.slice none 0 0, .map none] 55 (0, 0)) := kept_new HB6.out
        obtain ⟨uk, fk⟩ := cells_of_heap hk
        have k0 := uk 0
        have k1 := uk 1
        have fk0 := fk 0
        have fk1 := fk 1
        have HK := Lib.hid hk
        clear hk uk fk
        refine wpAnyH_take (i := 12) (v := ?vv12) rfl (by kernel_rfl) (by kernel_rfl) (by kernel_rfl) (fun _ _ _ h => h) (Or.inl ⟨by rfl, ?hy12⟩) hHeld ?rr12
        case hy12 => (intro w' hSw; obtain ⟨g0, g1, g2⟩ := HS.out _ hSw; go_simp; try with_reducible rfl)
        try simp only [Act.put, List.setIfInBounds_toArray, List.set_cons_zero, List.set_cons_succ, List.getElem_toArray, List.getElem_cons_succ, List.getElem_cons_zero]
        refine wpAnyH_ready (rs := [14]) (by kernel_rfl) (by simp) ?_
        refine AllReadyH.cons rfl (fun K hK => ?_) AllReadyH.nil
        try rw [if_pos (by rfl)]
        go_simp
        refine hK.out _ _ ((HV6.out.setCell (p := ⟨w5.heap.size, 0, none⟩) (by first | exact Nat.le_refl _ | exact HV5.out.size) _).setCell (p := ⟨w5.heap.size, 1, none⟩) (by first | exact Nat.le_refl _ | exact HV5.out.size) _) (fun hHeld2 => ?_)
        clear hK K hHeld
        have hHeld := hHeld2
        clear hHeld2
        try simp only [Act.put, List.setIfInBounds_toArray, List.set_cons_zero, List.set_cons_succ, List.getElem_toArray, List.getElem_cons_succ, List.getElem_cons_zero]
        refine wpAnyH_done (by kernel_rfl) ?_ _
        clear hHeld
        go_wp2
        go_meet
        refine ⟨w5.heap.size, A5, c5, (w5.heap.size + 1), rfl, Lib.hid (by rw [heap_set (heap_set HK.out 0 _) 1 _]; rfl), Lib.hid (Copies.put (V := w6) ⟨own_moved (p := fun _ => False) HO5.out (Below.movedNew ((below_alloc w5 (.cells #[.slice none 0 0, .map none] 55)).trans (HB6.out.mono (by simp)))) (fun _ _ h => h), (by simpa using HM6.out), (by have := HV5.out.size; omega), HV6.out⟩ (((Moved.refl (fun k => k = w5.heap.size) w6).setCell (.inr rfl) _).setCell (.inr rfl) _) HK.out (by decide) (by first | exact Nat.le_refl _ | exact HV5.out.size))⟩
    case rb =>
      try rw [if_pos (by rfl)]
      go_simp
      refine hK.out _ _ ((Below.refl w.heap.size w).drew.alloc (Nat.le_refl _) (.cells #[.slice none 0 0, .map none] 55)) (fun hHeld2 => ?_)
      clear hK K hHeld
      have hHeld := hHeld2
      clear hHeld2
      try simp only [Act.put, List.setIfInBounds_toArray, List.set_cons_zero, List.set_cons_succ, List.getElem_toArray, List.getElem_cons_succ, List.getElem_cons_zero]
      refine wpAnyH_ready (rs := [5]) (by kernel_rfl) (by simp) ?_
      refine AllReadyH.cons rfl (fun K hK => ?_) AllReadyH.nil
      try rw [if_pos (by rfl)]
      go_simp
      go_at_call 27
      refine Calls.mono (HCl.out _ ((Below.refl w.heap.size w).drew.alloc (Nat.le_refl _) (.cells #[.slice none 0 0, .map none] 55))) ?_
      rintro en w5 ⟨A5, c5, rfl, ho5, hb5⟩
      have HO5 := Lib.hid ho5
      have HB5 := Lib.hid hb5
      have HV5 : Hid (Below w.heap.size w w5) := Lib.hid ((((Below.refl w.heap.size w).drew.alloc (Nat.le_refl _) (.cells #[.slice none 0 0, .map none] 55))).trans (hb5.mono (((Below.refl w.heap.size w).drew.alloc (Nat.le_refl _) (.cells #[.slice none 0 0, .map none] 55))).size))
      clear ho5 hb5
      go_wp2_with fail
      refine hK.out _ _ HV5.out (fun hHeld2 => ?_)
      clear hK K hHeld
      have hHeld := hHeld2
      clear hHeld2
      try simp only [Act.put, List.setIfInBounds_toArray, List.set_cons_zero, List.set_cons_succ, List.getElem_toArray, List.getElem_cons_succ, List.getElem_cons_zero]
      refine wpAnyH_ready (rs := [11]) (by kernel_rfl) (by simp) ?_
      refine AllReadyH.cons rfl (fun K hK => ?_) AllReadyH.nil
      try rw [if_pos (by rfl)]
      go_simp
      go_at_call 28
      refine Calls.mono (HMc.out _ HV5.out) ?_
      rintro en w6 ⟨rfl, hm6, hb6⟩
      have HM6 := Lib.hid hm6
      have HB6 := Lib.hid hb6
      have HV6 : Hid (Below w.heap.size w w6) := Lib.hid ((HV5.out).trans (hb6.mono (HV5.out).size))
      clear hm6 hb6
      go_wp2_with fail
      refine hK.out _ _ HV6.out (fun hHeld2 => ?_)
      clear hK K hHeld
      have hHeld := hHeld2
      clear hHeld2
      try simp only [Act.put, List.setIfInBounds_toArray, List.set_cons_zero, List.set_cons_succ, List.getElem_toArray, List.getElem_cons_succ, List.getElem_cons_zero]
      have hk : w6.heap[w.heap.size]? = some (.cells #[.slice none 0 0, .map none] 55 (0, 0)) := (HB6.out.block _ (Nat.lt_of_lt_of_le (by simp) HB5.out.size)).trans (kept_new (cs := #[.slice none 0 0, .map none]) (t := 55) (w := w.drew) HB5.out)
      obtain ⟨uk, fk⟩ := cells_of_heap hk
      have k0 := uk 0
      have k1 := uk 1
      have fk0 := fk 0
      have fk1 := fk 1
      have HK := Lib.hid hk
      clear hk uk fk
      refine wpAnyH_take (i := 12) (v := ?vv13) rfl (by kernel_rfl) (by kernel_rfl) (by kernel_rfl) (fun _ _ _ h => h) (Or.inl ⟨by rfl, ?hy13⟩) hHeld ?rr13
      case hy13 => (intro w' hSw; obtain ⟨g0, g1, g2⟩ := HS.out _ hSw; go_simp; try with_reducible rfl)
      try simp only [Act.put, List.setIfInBounds_toArray, List.set_cons_zero, List.set_cons_succ, List.getElem_toArray, List.getElem_cons_succ, List.getElem_cons_zero]
      refine wpAnyH_ready (rs := [14]) (by kernel_rfl) (by simp) ?_
      refine AllReadyH.cons rfl (fun K hK => ?_) AllReadyH.nil
      try rw [if_pos (by rfl)]
      go_simp
      refine hK.out _ _ ((HV6.out.setCell (p := ⟨w.heap.size, 0, none⟩) (by first | exact Nat.le_refl _ | exact HV5.out.size) _).setCell (p := ⟨w.heap.size, 1, none⟩) (by first | exact Nat.le_refl _ | exact HV5.out.size) _) (fun hHeld2 => ?_)
      clear hK K hHeld
      have hHeld := hHeld2
      clear hHeld2
      try simp only [Act.put, List.setIfInBounds_toArray, List.set_cons_zero, List.set_cons_succ, List.getElem_toArray, List.getElem_cons_succ, List.getElem_cons_zero]
      refine wpAnyH_done (by kernel_rfl) ?_ _
      clear hHeld
      go_wp2
      go_meet
      refine ⟨w.heap.size, A5, c5, w5.heap.size, rfl, Lib.hid (by rw [heap_set (heap_set HK.out 0 _) 1 _]; rfl), Lib.hid (Copies.put (V := w6) ⟨own_wide2 (own_moved (p := fun _ => False) HO5.out (Below.movedNew HB6.out) (fun _ _ h => h)) (by simp), HM6.out, HV5.out.size, HV6.out⟩ (((Moved.refl (fun k => k = w.heap.size) w6).setCell (.inr rfl) _).setCell (.inr rfl) _) HK.out (by decide) (by first | exact Nat.le_refl _ | exact HV5.out.size))⟩
  case rest =>
    obtain ⟨a, A', c', mbn, rfl, HA, HCo⟩ := hcut
    have a0 : wc.cell? ⟨a, 0, none⟩ = some (.slice A' n c') := cell_of_row _ _ 0 _ _ _ HA.out
    have a1 : wc.cell? ⟨a, 1, none⟩ = some (.map (some mbn)) := cell_of_row _ _ 1 _ _ _ HA.out
    have b2 := (HS.out _ HCo.out.2.2.2).2.2
    have ha : a < wc.heap.size := heap_lt HA.out
    have hqc : q < wc.heap.size := World.block_lt_of_cell? wc _ b2
    go_wp2
    go_region
    all_goals
      go_wp2
      go_ret
    all_goals
      refine ⟨wc.heap.size, rfl, ⟨A', c', mbn, D, ⟨⟨?_, ⟨xs, ?_, HT.out⟩, (by show 57 ≠ 61; decide), hn⟩, ?_, HPl.out, HFit.out, ⟨HCo.out.2.2.2.size, HCo.out.2.2.1, fun k hk => ?_⟩⟩⟩, ?_⟩
      · exact heap_new wc _
      · exact own_wide2 (own_moved (p := fun _ => False) HCo.out.1 (Below.movedNew (below_alloc _ _).drew) (fun _ _ h => h)) (Nat.zero_le _)
      · exact own_map_moved (q := fun _ => False) HCo.out.2.1 (Below.movedNew (below_alloc _ _).drew) (fun h => h)
      · exact (HCo.out.1.lt k hk).1
      · exact (HCo.out.2.2.2.alloc HCo.out.2.2.2.size _).drew
end
end Go.Proofs.Ytllkallodgbpmaa
